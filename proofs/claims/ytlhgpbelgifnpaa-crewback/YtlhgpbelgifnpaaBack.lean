/- CrewBack: a crew is its nodes. Conditions: a list of at most 2^47 bytes, by the form's own reach. -/
import Derived.Test.YtlhgpbelgifnpaaEn
import Derived.Test.YtlhgpbelgifnpaaBk
namespace Go.Proofs.Ytlhgpbelgifnpaa
open Go.RowKit
theorem Sl.at {w : World} {ao : Option Addr} {n cap : Nat} {l : List Int} (h : Sl w (.slice ao n cap) l) {k : Nat} (hk : k < n) : n = l.length ∧ ∃ b o, ao = some ⟨b, o, none⟩ ∧ ∀ j, j < n → w.cell? ⟨b, o + j, none⟩ = some (.int .i64 (l.getD j 0)) := by
  obtain ⟨ao', cap', e, _, _, _, h4⟩ := h
  rw [Value.slice.injEq] at e
  obtain ⟨rfl, e2, rfl⟩ := e
  have e2' : n = l.length := e2
  obtain ⟨b, o, rfl, hc⟩ := h4 (by rintro rfl; simp at e2'; omega)
  exact ⟨e2', b, o, rfl, fun j hj => hc j (by omega)⟩
theorem take_nd (l : List Int) (k : Nat) (h : k < l.length) : (l.take (k + 1)).map nd = (l.take k).map nd ++ [nd (l.getD k 0)] := by
  rw [List.take_succ_eq_append_getElem h, List.map_append]
  simp [h]
set_option maxHeartbeats 2000000 in
theorem walkBack (c : Int) (v : Value) (l : List Int) (w : World) (hc : -9223372036854775808 ≤ c ∧ c ≤ 9223372036854775807) (hv : Sl w v l) (hl : l.length ≤ 17592186043904) : Calls Try.prog 5 #[.int .i64 c, v] w fun e w' => e = .returned (.bool true) ∧ Mod (fun _ => False) w w' := by
  obtain ⟨i0, hi, hz0, hz1, hz2⟩ := info_parts info3
  have HW := works w
  have HL1 := fun w => List12 c w
  have HO1 := fun v w hs => Of24 v (ls (lo c)) w hs
  have hx : ofx (ls (lo c)) = lo c &&& 510 := by rw [ofx, off_ls ⟨lo c, lo_lt c⟩]; rfl
  have he : ofe (ls (lo c)) = 0 := by rw [ofe, off_ls ⟨lo c, lo_lt c⟩]; rfl
  rw [hx, he] at HO1
  have hle : lo c &&& 510 ≤ 510 := Nat.and_le_right
  have hXl : lo c &&& 510 < 512 := by omega
  have hX5 : (lo c &&& 510) &&& 510 = lo c &&& 510 := hs_510 ⟨lo c, lo_lt c⟩
  have HKX := fun w => Check ((lo c &&& 510 : Nat) : Int) w (by omega)
  rw [chk_zero hXl hX5] at HKX
  have HKC := fun w => Check c w hc
  have hand : bits .and .i64 c 510 = ((lo c &&& 510 : Nat) : Int) := and_lo c 510 (by omega)
  have hchk : Hid (chk c = if ((lo c &&& 510 : Nat) : Int) = c then 0 else 2) := rfl
  have HLT : Hid (∀ i, (lo c &&& 510) = i → True) := fun _ _ => trivial
  clear HLT hx he hle hX5 hc
  generalize chk c = kc at HKC hchk
  generalize ls (lo c) = LC at HL1 HO1
  generalize lo c &&& 510 = X at *
  obtain ⟨Y, hoff, hY, hY5, hj0, hmem, hcn⟩ := off_spec (l.map nd) 0 (by omega) rfl (by intro n hn; obtain ⟨x, _, rfl⟩ := List.mem_map.1 hn; exact nd_node x)
  have HO2 := fun v w hs => Of24 v (l.map nd) w hs
  rw [show ofx (l.map nd) = Y by rw [ofx, hoff]; rfl, show ofe (l.map nd) = 0 by rw [ofe, hoff]; rfl] at HO2
  have HKY := fun w => Check (Y : Int) w (by omega)
  rw [chk_zero hY hY5] at HKY
  have HL2 := fun w => List12 (Y : Int) w
  rw [lo_nat hY] at HL2
  have HCT := fun w => Count (Y : Int) w
  rw [lo_nat hY] at HCT
  have HHS := fun (n : Int) w => Has (Y : Int) n w
  have hhas : ∀ n : Int, 1 ≤ n → n ≤ 8 → has (Y : Int) n = hs Y n.toNat := fun n h1 h2 => by rw [has, lo_nat hY, show node n = true by simp [node]; omega, Bool.true_and]
  have HMem : Hid (∀ j, j < l.length → has (Y : Int) ((l.map nd).getD j 0) = true) := by
    intro j hj
    have hm := hmem ((l.map nd).getD j 0) (by rw [show (l.map nd).getD j 0 = (l.map nd)[j]'(by simpa using hj) by simp [hj]]; exact List.getElem_mem _)
    have hn := nd_node (l.getD j 0)
    have e : (l.map nd).getD j 0 = nd (l.getD j 0) := by simp [hj]
    rw [e] at hm ⊢
    have hn2 : 1 ≤ nd (l.getD j 0) ∧ nd (l.getD j 0) < 9 := by simpa [node] using hn
    rw [hhas _ hn2.1 (by omega), hm]
  have HLs : Hid (∀ i, i < (ls Y).length → has (Y : Int) ((ls Y).getD i 0) = true) := by
    intro i hi
    obtain ⟨h1, h2, h3⟩ := ls_at hY hi
    rw [hhas _ h1 h2, h3]
  have HRs : Hid (∀ i, i + 1 < (ls Y).length → (ls Y).getD i 0 < (ls Y).getD (i + 1) 0) := fun i hi => rising_at _ i (ls_rising ⟨Y, hY⟩) hi
  have HC8 : Hid (cn Y = (ls Y).length ∧ (ls Y).length ≤ 8 ∧ cn Y ≤ l.length) := ⟨rfl, ls_len ⟨Y, hY⟩, by have e0 : cn 0 = 0 := rfl; rw [e0] at hcn; simpa using hcn⟩
  generalize ls Y = LY at HL2 HLs HRs HC8
  generalize cn Y = cY at HCT HC8
  clear hoff hmem hcn hhas hY5 hj0
  have HV : Hid (Sl w v l) := hv
  have HLL : Hid (l.length ≤ 17592186043904) := hl
  obtain ⟨ao, cap, rfl, hv1, hv2, hv3, h4⟩ := hv
  obtain ⟨n, hn⟩ : ∃ n, n = l.length := ⟨_, rfl⟩
  rw [← hn] at h4 hl HV HMem HC8 HLL ⊢
  have HN : Hid (n = l.length) := hn
  clear hn h4 hv1 hv2 hv3 hl
  have hn63 : n ≤ 17592186043904 := HLL.out
  go_enter Try.func5, Try.ntmps5
  go_wp2_with (fail)
  refine HW.mono ?_
  rintro e w1 ⟨rfl, hm1⟩
  clear HW
  go_wp2_with (fail)
  refine (HL1 _).mono ?_
  rintro e w2 ⟨v2, rfl, ho2, hm2, hn2⟩
  clear HL1
  have hm3 := hm1.trans hm2 (fun _ _ h => h) (fun _ _ h => h)
  go_wp2_with (fail)
  refine (HO1 _ _ ho2.sl).mono ?_
  rintro e w3 ⟨rfl, rfl⟩
  clear HO1 ho2 hm1 hm2 hn2
  go_wp2_with (fail)
  go_loopw [7, 8] (fun s i wr => ∃ k : Nat, i = .int .i64 k ∧ k ≤ n ∧ Hid (Own wr s ((l.take k).map nd)) ∧ Hid (Mod (fun _ => False) w wr) ∧ Hid (New w s)) (fun _ i _ => n - (intOf i).toNat)
  case atStart => exact ⟨0, rfl, by omega, Own.nil _, hm3, by intro g hg; simp [Value.ownBlock] at hg⟩
  case round =>
    obtain ⟨k, rfl, hk, hown, hmod, hnew⟩ := hrel
    clear hm3
    by_cases hlt : k < n
    · have hik : (k : Int) < (n : Int) := by omega
      obtain ⟨hnl, b, o, rfl, hcell⟩ := (HV.out.mod hmod.out (fun _ _ h => h)).at hlt
      have h1 := hcell k hlt
      have hB := fun w => Bring8 (l.getD k 0) w
      have htk : Hid ((l.take (k + 1)).map nd = (l.take k).map nd ++ [nd (l.getD k 0)]) := take_nd l k (by omega)
      have hll : Hid (((l.take k).map nd).length ≤ 17592186043904) := by have := HLL.out; simp [Hid]; omega
      have hndx : nd (l.getD k 0) = 1 + l.getD k 0 % 8 := rfl
      rw [hndx] at htk
      have hr0 : 0 ≤ l.getD k 0 % 8 := by omega
      have hr1 : l.getD k 0 % 8 < 8 := by omega
      clear hcell hndx hnl
      generalize l.getD k 0 % 8 = r at hB htk hr0 hr1
      generalize l.getD k 0 = x at h1 hB
      generalize (l.take k).map nd = l1 at htk hown hll
      clear HO2 HKX HKY HKC HL2 HCT HHS
      go_wp2_with (fail)
      refine (hB _).mono ?_
      rintro e w4 ⟨rfl, rfl⟩
      clear hB
      go_wp2_with (at_builtin; refine wpList_append_lies _ rfl _ _ 25 rfl 0 3 i0 (.int .i64 0) 1 8 Try.underlying25 hi hz0 hz1 hz2 rfl (by decide) u7 l1.length (U l1) rfl (hown.out.alloc _) ⟨w4.heap.size, 0, none⟩ 1 1 [.int .i64 (1 + r)] rfl rfl (app1 _ _ _) (U_one [1 + r]) (by omega) (by have := hll.out; simp only [maxLen]; omega) (by have := hll.out; omega) (Nat.zero_le _) (w4.heap.size + 1) (by simp) ?_; intro g cap1 w5 hown1 hgrow hg hlt)
      have R := Own.one hmod.out hnew.out hown1 hgrow hg
      go_roundw
      case rel => exact ⟨k + 1, by go_num, by omega, by show Own _ _ _; rw [htk.out]; exact R.1, R.2.1, R.2.2⟩
      case measure => simp [intOf]; omega
    · obtain rfl : n = k := by omega
      have hown2 : Own wr u7 (l.map nd) := by have := hown.out; rwa [List.take_of_length_le (by rw [← HN.out]; exact Nat.le_refl _)] at this
      have hmod2 := hmod.out
      clear hown hmod hnew HV
      obtain ⟨a7, c7, rfl⟩ := hown2.shape
      have hlen : (l.map nd).length = n := by simpa using HN.out.symm
      rw [hlen] at hown2 ⊢
      have hs7 := hown2.sl
      clear hlen
      go_wp2_with (fail)
      refine (HO2 _ _ hs7).mono ?_
      rintro e w4 ⟨rfl, rfl⟩
      clear HO2
      have hxc : ((X : Int) = c) ∨ (((X : Int) == c) = false ∧ ¬ (X : Int) = c) := by
        by_cases h : (X : Int) = c
        · exact .inl h
        · exact .inr ⟨by simpa using h, h⟩
      rcases hxc with hxc | ⟨hxb, hxc⟩
      · have hk0 : kc = 0 := by have := hchk.out; rwa [if_pos hxc] at this
        subst hk0
        rw [hxc] at HKX hand
        clear HKX hchk
        go_wp2_with (fail)
        refine (HKC _).mono ?_
        rintro e w5 ⟨rfl, rfl⟩
        go_wp2_with (fail)
        refine (HKY _).mono ?_
        rintro e w5 ⟨rfl, rfl⟩
        go_wp2_with (fail)
        refine (HKC _).mono ?_
        rintro e w5 ⟨rfl, rfl⟩
        clear HKC HKY
        go_wp2_with (fail)
        refine (HL2 _).mono ?_
        rintro e w6 ⟨v6, rfl, ho6, hm6, hn6⟩
        clear HL2
        have hm7 := hmod2.trans hm6 (fun _ _ h => h) (fun _ _ h => h)
        have hs6 := ho6.sl
        have hs8 := hs7.mod hm6 (fun _ _ h => h)
        obtain ⟨a6, c6, rfl⟩ := ho6.shape
        obtain ⟨p, hp⟩ : ∃ p, p = LY.length := ⟨_, rfl⟩
        rw [← hp] at hs6 HLs HRs HC8 ⊢
        have hp8 : p ≤ 8 := HC8.out.2.1
        have hpc : cY = p := HC8.out.1
        have hpn : cY ≤ n := HC8.out.2.2
        clear hmod2 hm6 hn6 ho6 hs7 hown2 hp HC8
        go_wp2_with (fail)
        go_loopw [12] (fun i wr => ∃ k q : Nat, i = .int .i64 k ∧ k ≤ p ∧ wr = w6.drewN q) (fun i _ => p - (intOf i).toNat)
        case atStart => exact ⟨0, 0, rfl, by omega, rfl⟩
        case round =>
          obtain ⟨k, q, rfl, hk2, rfl⟩ := hrel
          by_cases hlt2 : k < p
          · have hik : (k : Int) < (p : Int) := by omega
            obtain ⟨b, o, rfl, hcell⟩ := (hs6.at hlt2).2
            have h1 := hcell k hlt2
            have hh := HLs.out k hlt2
            rcases Nat.eq_zero_or_pos k with rfl | hk0
            · have HK := fun w => HHS (LY.getD 0 0) w
              rw [hh] at HK
              generalize LY.getD 0 0 = x at h1 HK
              rw [Nat.add_zero] at h1
              clear HHS hcell hh HCT HMem HLs HRs
              have hg0 : decide ((0 : Int) < 0) = false := rfl
              rw [show ((0 : Nat) : Int) = 0 from rfl]
              go_wp2_with fail
              go_big_quiet ((go_at_call 14; exact (HK _).mono fun e w' h => ⟨h.1, _, h.2⟩))
              go_wp2
              go_roundw
              case rel => exact ⟨0 + 1, q + nq, by go_num, by omega, by simp⟩
              case measure => simp [intOf]; omega
            · obtain ⟨j, rfl⟩ : ∃ j, k = j + 1 := ⟨k - 1, by omega⟩
              have HK := fun w => HHS (LY.getD (j + 1) 0) w
              rw [hh] at HK
              have h2 := hcell j (by omega)
              have hr := HRs.out j hlt2
              generalize LY.getD (j + 1) 0 = x at h1 HK hr
              generalize LY.getD j 0 = y at h2 hr
              have hrd : decide (x ≤ y) = false := by rw [decide_eq_false_iff_not]; omega
              have hpos : (0 : Int) < ((j + 1 : Nat) : Int) := by omega
              clear HHS hcell hh HCT HMem HLs HRs
              go_wp2_with fail
              go_big_quiet ((go_at_call 14; exact (HK _).mono fun e w' h => ⟨h.1, _, h.2⟩))
              go_wp2
              go_roundw
              case rel => exact ⟨j + 1 + 1, q + nq, by go_num, by omega, rfl⟩
              case measure => simp [intOf]; omega
          · obtain rfl : p = k := by omega
            clear HLs HRs hs6
            have hs9 := hs8.mod ((Mod.refl (fun _ => False) w6).drewN q) (fun _ _ h => h)
            have hm9 := hm7.drewN q
            generalize w6.drewN q = w9 at hs9 hm9
            clear hs8 hm7
            go_wp2_with (fail)
            go_loopw [13] (fun i wr => ∃ k : Nat, i = .int .i64 k ∧ k ≤ n ∧ wr = w9) (fun i _ => n - (intOf i).toNat)
            case atStart => exact ⟨0, rfl, by omega, rfl⟩
            case round =>
              obtain ⟨k, rfl, hk3, rfl⟩ := hrel
              by_cases hlt3 : k < n
              · have hik : (k : Int) < (n : Int) := by omega
                obtain ⟨b, o, rfl, hcell⟩ := (hs9.at hlt3).2
                have h1 := hcell k hlt3
                have hh := HMem.out k hlt3
                have HK := fun w => HHS ((l.map nd).getD k 0) w
                rw [hh] at HK
                generalize (l.map nd).getD k 0 = x at h1 HK
                clear HHS hcell hh HCT HMem
                go_wp2_with (fail)
                refine (HK _).mono ?_
                rintro e w10 ⟨rfl, rfl⟩
                go_wp2
                go_roundw
                case rel => exact ⟨k + 1, by go_num, by omega, trivial⟩
                case measure => simp [intOf]; omega
              · obtain rfl : n = k := by omega
                clear HHS HMem
                subst hpc
                have hpnI : (cY : Int) ≤ (n : Int) := by omega
                go_wp2_with (fail)
                refine (HCT _).mono ?_
                rintro e w10 ⟨rfl, rfl⟩
                go_wp2
                go_ret
                exact ⟨rfl, hm9⟩
      · have hk0 : kc = 2 := by have := hchk.out; rwa [if_neg hxc] at this
        subst hk0
        clear hchk hxc
        go_wp2_with (fail)
        refine (HKX _).mono ?_
        rintro e w5 ⟨rfl, rfl⟩
        go_wp2_with (fail)
        refine (HKY _).mono ?_
        rintro e w5 ⟨rfl, rfl⟩
        go_wp2_with (fail)
        refine (HKC _).mono ?_
        rintro e w5 ⟨rfl, rfl⟩
        clear HKC HKY HKX
        go_wp2_with (fail)
        refine (HL2 _).mono ?_
        rintro e w6 ⟨v6, rfl, ho6, hm6, hn6⟩
        clear HL2
        have hm7 := hmod2.trans hm6 (fun _ _ h => h) (fun _ _ h => h)
        have hs6 := ho6.sl
        have hs8 := hs7.mod hm6 (fun _ _ h => h)
        obtain ⟨a6, c6, rfl⟩ := ho6.shape
        obtain ⟨p, hp⟩ : ∃ p, p = LY.length := ⟨_, rfl⟩
        rw [← hp] at hs6 HLs HRs HC8 ⊢
        have hp8 : p ≤ 8 := HC8.out.2.1
        have hpc : cY = p := HC8.out.1
        have hpn : cY ≤ n := HC8.out.2.2
        clear hmod2 hm6 hn6 ho6 hs7 hown2 hp HC8
        go_wp2_with (fail)
        go_loopw [12] (fun i wr => ∃ k q : Nat, i = .int .i64 k ∧ k ≤ p ∧ wr = w6.drewN q) (fun i _ => p - (intOf i).toNat)
        case atStart => exact ⟨0, 0, rfl, by omega, rfl⟩
        case round =>
          obtain ⟨k, q, rfl, hk2, rfl⟩ := hrel
          by_cases hlt2 : k < p
          · have hik : (k : Int) < (p : Int) := by omega
            obtain ⟨b, o, rfl, hcell⟩ := (hs6.at hlt2).2
            have h1 := hcell k hlt2
            have hh := HLs.out k hlt2
            rcases Nat.eq_zero_or_pos k with rfl | hk0
            · have HK := fun w => HHS (LY.getD 0 0) w
              rw [hh] at HK
              generalize LY.getD 0 0 = x at h1 HK
              rw [Nat.add_zero] at h1
              clear HHS hcell hh HCT HMem HLs HRs
              have hg0 : decide ((0 : Int) < 0) = false := rfl
              rw [show ((0 : Nat) : Int) = 0 from rfl]
              go_wp2_with fail
              go_big_quiet ((go_at_call 14; exact (HK _).mono fun e w' h => ⟨h.1, _, h.2⟩))
              go_wp2
              go_roundw
              case rel => exact ⟨0 + 1, q + nq, by go_num, by omega, by simp⟩
              case measure => simp [intOf]; omega
            · obtain ⟨j, rfl⟩ : ∃ j, k = j + 1 := ⟨k - 1, by omega⟩
              have HK := fun w => HHS (LY.getD (j + 1) 0) w
              rw [hh] at HK
              have h2 := hcell j (by omega)
              have hr := HRs.out j hlt2
              generalize LY.getD (j + 1) 0 = x at h1 HK hr
              generalize LY.getD j 0 = y at h2 hr
              have hrd : decide (x ≤ y) = false := by rw [decide_eq_false_iff_not]; omega
              have hpos : (0 : Int) < ((j + 1 : Nat) : Int) := by omega
              clear HHS hcell hh HCT HMem HLs HRs
              go_wp2_with fail
              go_big_quiet ((go_at_call 14; exact (HK _).mono fun e w' h => ⟨h.1, _, h.2⟩))
              go_wp2
              go_roundw
              case rel => exact ⟨j + 1 + 1, q + nq, by go_num, by omega, rfl⟩
              case measure => simp [intOf]; omega
          · obtain rfl : p = k := by omega
            clear HLs HRs hs6
            have hs9 := hs8.mod ((Mod.refl (fun _ => False) w6).drewN q) (fun _ _ h => h)
            have hm9 := hm7.drewN q
            generalize w6.drewN q = w9 at hs9 hm9
            clear hs8 hm7
            go_wp2_with (fail)
            go_loopw [13] (fun i wr => ∃ k : Nat, i = .int .i64 k ∧ k ≤ n ∧ wr = w9) (fun i _ => n - (intOf i).toNat)
            case atStart => exact ⟨0, rfl, by omega, rfl⟩
            case round =>
              obtain ⟨k, rfl, hk3, rfl⟩ := hrel
              by_cases hlt3 : k < n
              · have hik : (k : Int) < (n : Int) := by omega
                obtain ⟨b, o, rfl, hcell⟩ := (hs9.at hlt3).2
                have h1 := hcell k hlt3
                have hh := HMem.out k hlt3
                have HK := fun w => HHS ((l.map nd).getD k 0) w
                rw [hh] at HK
                generalize (l.map nd).getD k 0 = x at h1 HK
                clear HHS hcell hh HCT HMem
                go_wp2_with (fail)
                refine (HK _).mono ?_
                rintro e w10 ⟨rfl, rfl⟩
                go_wp2
                go_roundw
                case rel => exact ⟨k + 1, by go_num, by omega, trivial⟩
                case measure => simp [intOf]; omega
              · obtain rfl : n = k := by omega
                clear HHS HMem
                subst hpc
                have hpnI : (cY : Int) ≤ (n : Int) := by omega
                go_wp2_with (fail)
                refine (HCT _).mono ?_
                rintro e w10 ⟨rfl, rfl⟩
                go_wp2
                go_ret
                exact ⟨rfl, hm9⟩
namespace crewBack
open Go.ChangeShapes Go.WideShapes Go.ChangeAt Go.RowKit
set_option maxRecDepth 100000 in
theorem lifted (os : Os) (started : os.Started) (H : Type) (enc : TypeId × Value → H) :
    ReturnsInHanded {} Try.checked os 5 .any (Rows.crewBackSpec.pre6 enc Try.prog Try.f5 Rows.crewBackRow.domain false) (Rows.crewBackSpec.post enc Try.prog Try.f5 false true false false) := by
  refine returnsInHanded_of_change_sized (C := Try.checked) own started (by kernel_rfl) Try.func5
    (ChangeSpec.witness6 (enc := enc) (C := Try.checked) false ⟨#[], #[.int .i64 0, .slice none 0 0], []⟩ 8 (by kernel_rfl) (by kernel_rfl) (by kernel_rfl) (by kernel_rfl)) ?_
  intro W base args ds gs before hval0 hW hcnd hsz0 _
  have hval : ∀ (j : Nat) t v, Try.f5.params[j]? = some t → args[j]? = some v → Value.okWide Try.prog W .any base t v := hval0
  have hsz : (DataW.weightsEach Try.prog (Try.f5.params.toList ++ Rows.crewBackSpec.plain.varTypes Try.prog) (ds ++ gs)).all (· ≤ reachBytes) = true := hsz0
  have hW' := hW
  obtain ⟨p, q, hA0, hV, rfl, hfz, hnd⟩ := hW
  have hA : DataW.TrodAll enc Try.prog W 0 (fun _ => true) true Try.f5.params.toList args.toList ds p := hA0
  rw [Try.params5] at hA hval hsz
  obtain ⟨v0, vs0, d0, ds0, p0, q0, hargs, rfl, rfl, h0, r0⟩ := trodAll_cons hA
  obtain ⟨v1, vs1, d1, ds1, p1, q1, rfl, rfl, rfl, h1, r1⟩ := trodAll_cons r0
  obtain ⟨rfl, rfl, rfl⟩ := trodAll_nil r1
  obtain rfl : args = #[v0, v1] := by cases args; simp_all
  obtain ⟨rfl, rfl⟩ := trodVars_none hV
  obtain ⟨a0, rfl, rfl, rfl, w0⟩ := open_int Try.underlying3 (hval 0 3 v0 rfl rfl) h0
  have hs1 := okWide_slice Try.underlying25 (hval 1 25 v1 rfl rfl)
  have k1 := h1
  have lt1 : ∀ x ∈ p1, x.block < W.heap.size := by obtain ⟨m, hm⟩ := k1; exact DataW.trod_lt m _ _ _ hm
  obtain ⟨B1, hB1, hBl1⟩ : ∃ B, Sl W v1 B ∧ B.length ≤ 17592186043904 := by
    obtain ⟨ao, len, cap, rfl⟩ := hs1
    obtain ⟨fuel, hf⟩ := h1
    obtain ⟨B, hB, hbulk, hx⟩ := sl_of_trod (c := .slice ao len cap) (by simpa [Value.cells] using hf)
    refine ⟨B, hB, ?_⟩
    simp only at hbulk hx
    rcases hx with rfl | ⟨e, s, rfl, hlen⟩
    · simp [Rows.uptoBulk] at hbulk; simp [hbulk]
    · have := sized_slice hsz (j := 1) (t := 25) (e := 3) rfl rfl Try.underlying25
      rw [bytes3] at this
      simp only [reachBytes] at this
      omega
  clear hA0 hval0
  refine (walkBack a0 v1 B1 W (by have := bounds_i64 w0; omega) hB1 hBl1).mono fun e W' ⟨he, hm⟩ => ?_
  subst he
  have bel : Below W.heap.size W W' := hm.below _ (Nat.le_refl _) (fun _ h => h.elim)
  exact ⟨_, rfl, _, _, _, [], _, [], hW', trodAll_mk1 (shut_bool Try.underlying4 _), (trodAll_cons_mk (shut_int Try.underlying3 w0) (trodAll_cons_mk (Below.trod laidOut (by kernel_rfl) (of_decide_eq_true (by kernel_rfl)) k1 bel lt1) trodAll_mk0)), rfl, bel.frame _, fun h => by cases h⟩

theorem over : Rows.crewBackRow.holds Try.pinned (OpenSpec.ofChange Rows.crewBackSpec) :=
  OpenClaim.holds_of_wide 5 Try.f5 rfl rfl rfl rfl rfl rfl rfl ⟨rfl, rfl, rfl, rfl, rfl⟩ rfl rfl rfl rfl rfl (by kernel_rfl) Try.func5 (by kernel_rfl)
    (of_decide_eq_true (by kernel_rfl)) (by unfold Func.isWrapper; first | (rw [if_pos (by decide +kernel)]; kernel_rfl) | (rw [if_neg (by decide +kernel)]; exact ⟨rfl, rfl⟩))
    (fun os started H enc _ => lifted os started H enc)
end crewBack
theorem crewBack_holds : Rows.CrewBackSaid := crewBack.over
end Go.Proofs.Ytlhgpbelgifnpaa
