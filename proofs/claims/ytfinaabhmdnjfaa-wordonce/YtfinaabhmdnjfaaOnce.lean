/- WordOnce holds: for any bytes and any deeds the law answers true and turns nothing that was there. Conditions: none beyond the form's own reach (a slice of bytes takes at most 2^47 - 4096 bytes). -/
import Derived.Test.YtfinaabhmdnjfaaDe
import Derived.SizedLaws
namespace Go.Proofs.Ytfinaabhmdnjfaa
open Go.RowKit
set_option maxRecDepth 100000 in
set_option maxHeartbeats 4000000 in
theorem once_walk (bv lv : Value) (B : List Int) (ds : List Dd) (w : World) (hb : Sl w bv B) (hd : Deeds w lv ds) (hB : B.length ≤ 140737488351232) :
    Calls Try.prog 6 #[bv, lv] w fun e w' => e = .returned (.bool true) ∧ Mod (fun _ => False) w w' := by
  obtain ⟨ab, cb, rfl, hbc, hbm, _, hbf⟩ := hb.form
  obtain ⟨al, cl, rfl, hlm, _⟩ := hd.form
  unfold maxLen at hlm hbm
  go_enter Try.func6, Try.ntmps6
  go_wp2_with fail
  refine (works_any _).mono ?_
  rintro e w0 ⟨rfl, hm0⟩
  go_wp2_with fail
  refine (New_any _ B _ (hb.mod hm0 (fun _ _ h => h)) (by omega)).mono ?_
  rintro e w1 ⟨p, v1, rfl, hr1, hm1, hp0, _, hv1⟩
  have hm : Mod (fun _ => False) w w1 := hm0.trans hm1 (fun _ _ h => h) (fun _ _ h => h)
  have hp : w.heap.size ≤ p := Nat.le_trans hm0.size hp0
  have hv : ∀ g, v1.ownBlock = some g → w.heap.size ≤ g := fun g hg => Nat.le_trans hm0.size (hv1 g hg)
  clear hm0 hm1 hp0 hv1
  go_wp2_with fail
  go_loopw [6, 7] (fun a i wr => ∃ (k n : Nat) (v : Value), i = .int .i64 k ∧ a = .int .i64 n ∧ k ≤ ds.length ∧ n ≤ B.length ∧ Rd wr p v (B.drop n) ∧ Mod (fun _ => False) w wr ∧ (∀ g, v.ownBlock = some g → w.heap.size ≤ g)) (fun _ i _ => ds.length - (intOf i).toNat)
  case atStart => exact ⟨0, 0, v1, rfl, rfl, by omega, by omega, hr1, hm, hv⟩
  case round =>
    clear hm hv hr1
    obtain ⟨k, n, v, rfl, rfl, hk, hn, hr, hm, hv⟩ := hrel
    by_cases hlt : k < ds.length
    · obtain ⟨d, hdk⟩ : ∃ d, ds[k]? = some d := ⟨_, List.getElem?_eq_getElem hlt⟩
      obtain ⟨lb, lo, rfl, hcells⟩ := hd.at hdk
      obtain ⟨hsd, ik, iv, isz⟩ := hd.each d (List.mem_of_getElem? hdk)
      clear hdk hd hsd
      have hp2 : p < wr.heap.size := lt_of_block hr.blk
      have hvl : B.drop n ≠ [] → ∀ g, v.ownBlock = some g → g < wr.heap.size := fun hne => hr.sl.lt hne
      have hL : (B.drop n).length = B.length - n := List.length_drop
      have hrngL := hr.sl.rng
      go_wp2_with fail
      refine (write_any _).mono ?_
      rintro e w2 ⟨rfl, hw2, hm2⟩
      have hr2 := hr.mod hm2 (fun h => h) (fun _ _ h => h)
      have hmw2 : Mod (fun _ => False) w w2 := hm.trans hm2 (fun _ _ h => h) (fun _ _ h => h)
      obtain ⟨c0, c1, c2, _⟩ := hcells w2 hmw2
      have hpw : wr.heap.size ≠ p := by omega
      have hw0 : w.heap.size ≤ wr.heap.size := hm.size
      have hpw2 : wr.heap.size < w2.heap.size := lt_of_block hw2.blk
      generalize hpe : wr.heap.size = pw at *
      clear hpe hm2 hr hm
      go_wp2_with fail
      refine (Bring3 _ _ ik).mono ?_
      rintro e w' ⟨rfl, rfl⟩
      have hq3 : 0 ≤ d.kind % 3 ∧ d.kind % 3 < 3 := by omega
      generalize d.kind % 3 = q at hq3
      rcases (show q = 0 ∨ q = 1 ∨ q = 2 from by omega) with hq | hq | hq
      all_goals subst hq
      · obtain ⟨⟨x, z, e⟩, hN⟩ : ∃ N, num 0 0 (B.drop n) = N := ⟨_, rfl⟩
        have hg := get_facts hrngL hN
        have HN : Hid (num 0 0 (B.drop n) = (x, z, e)) := hN
        clear hN hcells
        go_wp2_with fail
        refine (Get_at hr2 x z e _ HN.out rfl).mono ?_
        rintro e' w3 ⟨rfl, v3, hr3, hm3, hv3⟩
        have hw3 := hw2.mod hm3 hpw (fun g hg => by simp [Value.ownBlock] at hg)
        have hmw3 : Mod (fun _ => False) w w3 := hmw2.trans hm3 (fun _ _ h => h) (fun i hi h => by omega)
        have hx01 : 0 ≤ x ∧ x ≤ 9007199254740991 := by omega
        have hvx : ∀ g, v3.ownBlock = some g → w.heap.size ≤ g := fun g h => hv g (hv3 g h)
        clear hr2 hmw2 hw2
        go_wp2_with fail
        refine (Put_ok _ _ _ x _ hw3 hx01.1 hx01.2 (by simp)).mono ?_
        rintro e' w4 ⟨rfl, v4, hw4, hm4, hf4⟩
        have hmx : Mod (fun _ => False) w w4 := hmw3.trans hm4 (fun _ _ h => h) (fun i hi h => by rcases h with h | h; omega; simp [Value.ownBlock] at h)
        rcases hg with ⟨he, rfl, rfl⟩ | ⟨rfl, _, _, kk, rfl, hk1, hk2, hk3⟩
        · have heb : (e == 0) = false := by simp [he]
          have hrx : Rd w4 p v3 (B.drop n) := hr3.mod2 hm4 (fun h => by rcases h with h | h; exact hpw h.symm; simp [Value.ownBlock] at h) (fun hne g hg h => by rcases h with h | h; (have := hvl hne g (hv3 g hg); omega); simp [Value.ownBlock] at h)
          clear hr3 hm3 hm4 hw3 hw4 hf4 hmw3 he
          obtain ⟨rest, hrest⟩ : ∃ rest : Nat, rest = B.length - n := ⟨_, rfl⟩
          have hbool : ((rest : Int) != (B.length : Int) - (n : Int)) = false := by simp; omega
          have HR : Hid (rest = B.length - n) := hrest
          clear hrest
          go_wp2_with fail
          refine (Left_at hrx rest (by rw [List.length_drop, HR.out])).mono ?_
          rintro e w' ⟨rfl, rfl⟩
          go_wp2
          go_roundw
          case rel => exact ⟨k + 1, n, _, by go_num, rfl, by omega, by omega, hrx, hmx, hvx⟩
          case measure => simp [intOf]; omega
        · have hT : [] ++ enc x.toNat = (B.drop n).take kk := by rw [List.nil_append, hk3]
          have hrx : Rd w4 p v3 ((B.drop n).drop kk) := hr3.mod2 hm4 (fun h => by rcases h with h | h; exact hpw h.symm; simp [Value.ownBlock] at h) (fun hne g hg h => by rcases h with h | h; (have := hvl (by intro e; rw [e] at hne; simp at hne) g (hv3 g hg); omega); simp [Value.ownBlock] at h)
          have hw := hw4
          clear hr3 hm3 hm4 hw3 hw4 hf4 hmw3 hk3
          have hTl : ([] ++ enc x.toNat).length = kk := by rw [hT, List.length_take]; omega
          have hBne : B ≠ [] := by intro e; rw [e] at hk2; simp at hk2; omega
          obtain ⟨bb, bo, rfl, _⟩ := hbf hBne
          have hcut := hb.cut n (n + kk) (by omega) (by omega)
          rw [if_neg (by omega), show n + kk - n = kk from by omega, Nat.mul_one, Option.map_some, add_at] at hcut
          have hrT : ∀ c ∈ [] ++ enc x.toNat, 0 ≤ c ∧ c ≤ 255 := hw.rng
          generalize hTe : [] ++ enc x.toNat = T at *
          go_wp2_with fail
          refine (Bytes_any _ _ _ _ hw (by omega)).mono ?_
          rintro e w5 ⟨vo, rfl, ho, hm5, _⟩
          obtain ⟨og, oc, rfl, _, _⟩ := ho.form (by omega)
          have hso : Sl w5 (.slice (some ⟨og, 0, none⟩) kk oc) T := by have := ho.sl hrT; rwa [hTl] at this
          have hmw5 : Mod (fun _ => False) w w5 := hmx.trans hm5 (fun _ _ h => h) (fun _ _ h => h)
          have hr5 := hrx.mod hm5 (fun h => h) (fun _ _ h => h)
          have hc5 := hcut.mod hmw5 (fun _ _ h => h)
          have hcn : ¬ cb = n := by omega
          have hle : (n : Int) + (kk : Int) ≤ (B.length : Int) := by omega
          rw [hTl]
          have HT : Hid (T = (B.drop n).take kk) := hT
          clear hT hTe hTl ho hcut hm5 hrx hmx hBne hbf hb hrngL hvl hL hk2 hv hrT hw
          go_wp2_with fail
          refine (EqBytes_at true hso hc5 (by simpa using HT.out)).mono ?_
          rintro e w6 ⟨rfl, hm6⟩
          have hmw6 : Mod (fun _ => False) w w6 := hmw5.trans hm6 (fun _ _ h => h) (fun _ _ h => h)
          have hr6 := hr5.mod hm6 (fun h => h) (fun _ _ h => h)
          rw [List.drop_drop] at hr6
          obtain ⟨rest, hrest⟩ : ∃ rest : Nat, rest = B.length - (n + kk) := ⟨_, rfl⟩
          have hbool : ((rest : Int) != (B.length : Int) - ((n : Int) + (kk : Int))) = false := by simp; omega
          have HR : Hid (rest = B.length - (n + kk)) := hrest
          clear hrest hm6 hr5 hso hc5
          go_wp2_with fail
          refine (Left_at hr6 rest (by rw [List.length_drop, HR.out])).mono ?_
          rintro e w' ⟨rfl, rfl⟩
          go_wp2
          go_roundw
          case rel => exact ⟨k + 1, n + kk, _, by go_num, by go_num, by omega, by omega, hr6, hmw6, hvx⟩
          case measure => simp [intOf]; omega
      · by_cases hE : fixE d.size (B.drop n) = 0
        · obtain ⟨kk, hsz, hk1, hk8, hk2, hx1, hx2, hk3⟩ := fix_facts hrngL hE
          have HE : Hid (fixE d.size (B.drop n) = 0) := hE
          have HS : Hid (d.size = kk) := hsz
          have hs1 : 1 ≤ d.size := by omega
          have hs2 : d.size ≤ 8 := by omega
          clear hE hsz
          go_wp2_with fail
          refine (Fixed_at hr2 d.size (fx ((B.drop n).take kk)) ((B.drop n).drop kk) HE.out (by rw [HS.out, Int.toNat_natCast]) (by rw [HS.out, Int.toNat_natCast])).mono ?_
          rintro e' w3 ⟨rfl, v3, hr3, hm3, hv3⟩
          have hw3 := hw2.mod hm3 hpw (fun g hg => by simp [Value.ownBlock] at hg)
          have hmw3 : Mod (fun _ => False) w w3 := hmw2.trans hm3 (fun _ _ h => h) (fun i hi h => by omega)
          have hvx : ∀ g, v3.ownBlock = some g → w.heap.size ≤ g := fun g h => hv g (hv3 g h)
          obtain ⟨_, _, c2', _⟩ := hcells w3 hmw3
          clear hr2 hmw2 hw2 hcells c0 c1 c2
          generalize hfx : fx ((B.drop n).take kk) = fv at *
          have hE4 : fwE (fv : Int) d.size = 0 := by
            rw [HS.out]
            unfold fwE
            rw [if_neg (by omega), if_neg]
            rw [Int.toNat_natCast]
            intro h
            have h2 : ((256 ^ kk : Nat) : Int) = (256 : Int) ^ kk := by simp
            omega
          have HE4 : Hid (fwE (fv : Int) d.size = 0) := hE4
          have H3 : Hid (fenc kk fv = (B.drop n).take kk) := hk3
          clear hfx hE4 hk3 hx2
          go_wp2_with fail
          refine (WFixed_ok _ _ _ _ _ _ hw3 (by omega) HE4.out (by simp)).mono ?_
          rintro e' w4 ⟨rfl, v4, hw4, hm4, hf4⟩
          rw [HS.out, Int.toNat_natCast, Int.toNat_natCast] at hw4
          have hmx : Mod (fun _ => False) w w4 := hmw3.trans hm4 (fun _ _ h => h) (fun i hi h => by rcases h with h | h; omega; simp [Value.ownBlock] at h)
          have hT : [] ++ fenc kk fv = (B.drop n).take kk := by rw [List.nil_append, H3.out]
          have hrx : Rd w4 p v3 ((B.drop n).drop kk) := hr3.mod2 hm4 (fun h => by rcases h with h | h; exact hpw h.symm; simp [Value.ownBlock] at h) (fun hne g hg h => by rcases h with h | h; (have := hvl (by intro e; rw [e] at hne; simp at hne) g (hv3 g hg); omega); simp [Value.ownBlock] at h)
          have hw := hw4
          clear hr3 hm3 hm4 hw3 hw4 hf4 hmw3 H3
          have hTl : ([] ++ fenc kk fv).length = kk := by rw [hT, List.length_take]; omega
          have hBne : B ≠ [] := by intro e; rw [e] at hk2; simp at hk2; omega
          obtain ⟨bb, bo, rfl, _⟩ := hbf hBne
          have hcut := hb.cut n (n + kk) (by omega) (by omega)
          rw [if_neg (by omega), show n + kk - n = kk from by omega, Nat.mul_one, Option.map_some, add_at] at hcut
          have hrT : ∀ c ∈ [] ++ fenc kk fv, 0 ≤ c ∧ c ≤ 255 := hw.rng
          generalize hTe : [] ++ fenc kk fv = T at *
          go_wp2_with fail
          refine (Bytes_any _ _ _ _ hw (by omega)).mono ?_
          rintro e w5 ⟨vo, rfl, ho, hm5, _⟩
          obtain ⟨og, oc, rfl, _, _⟩ := ho.form (by omega)
          have hso : Sl w5 (.slice (some ⟨og, 0, none⟩) kk oc) T := by have := ho.sl hrT; rwa [hTl] at this
          have hmw5 : Mod (fun _ => False) w w5 := hmx.trans hm5 (fun _ _ h => h) (fun _ _ h => h)
          have hr5 := hrx.mod hm5 (fun h => h) (fun _ _ h => h)
          have hc5 := hcut.mod hmw5 (fun _ _ h => h)
          have hcn : ¬ cb = n := by omega
          have hle : (n : Int) + (kk : Int) ≤ (B.length : Int) := by omega
          rw [hTl]
          have HT : Hid (T = (B.drop n).take kk) := hT
          clear hT hTe hTl ho hcut hm5 hrx hmx hBne hbf hb hrngL hvl hL hk2 hv hrT hw
          go_wp2_with fail
          refine (EqBytes_at true hso hc5 (by simpa using HT.out)).mono ?_
          rintro e w6 ⟨rfl, hm6⟩
          have hmw6 : Mod (fun _ => False) w w6 := hmw5.trans hm6 (fun _ _ h => h) (fun _ _ h => h)
          have hr6 := hr5.mod hm6 (fun h => h) (fun _ _ h => h)
          rw [List.drop_drop] at hr6
          obtain ⟨rest, hrest⟩ : ∃ rest : Nat, rest = B.length - (n + kk) := ⟨_, rfl⟩
          have hbool : ((rest : Int) != (B.length : Int) - ((n : Int) + (kk : Int))) = false := by simp; omega
          have HR : Hid (rest = B.length - (n + kk)) := hrest
          clear hrest hm6 hr5 hso hc5
          go_wp2_with fail
          refine (Left_at hr6 rest (by rw [List.length_drop, HR.out])).mono ?_
          rintro e w' ⟨rfl, rfl⟩
          go_wp2
          go_roundw
          case rel => exact ⟨k + 1, n + kk, _, by go_num, by go_num, by omega, by omega, hr6, hmw6, hvx⟩
          case measure => simp [intOf]; omega
        · obtain ⟨e, hEe⟩ : ∃ e, fixE d.size (B.drop n) = e := ⟨_, rfl⟩
          have hb1 := Fixed_bad _ _ _ d.size _ hr2 hE
          rw [hEe] at hb1 hE
          have heb : (e == 0) = false := by simp [hE]
          have HB := hb1
          clear hEe hE hb1
          rcases (show d.size < 1 ∨ 8 < d.size ∨ (1 ≤ d.size ∧ d.size ≤ 8) from by omega) with hs | hs | ⟨hs, hs'⟩
          all_goals
            go_wp2_with fail
            refine HB.mono ?_
            rintro e' w3 ⟨rfl, rfl⟩
            go_wp2_with fail
            refine (WFixed_zero _ hw2 (by omega) (by omega)).mono ?_
            rintro e' w4 ⟨rfl, v4, hm4⟩
            have hmx : Mod (fun _ => False) w w4 := hmw2.trans hm4 (fun _ _ h => h) (fun i hi h => by rcases h with h | h; omega; simp [Value.ownBlock] at h)
            have hrx : Rd w4 p v (B.drop n) := hr2.mod2 hm4 (fun h => by rcases h with h | h; exact hpw h.symm; simp [Value.ownBlock] at h) (fun hne g hg h => by rcases h with h | h; (have := hvl hne g hg; omega); simp [Value.ownBlock] at h)
            have hvx := hv
            clear hr2 hw2 hmw2 hm4 hcells c0 c1 c2
            obtain ⟨rest, hrest⟩ : ∃ rest : Nat, rest = B.length - n := ⟨_, rfl⟩
            have hbool : ((rest : Int) != (B.length : Int) - (n : Int)) = false := by simp; omega
            have HR : Hid (rest = B.length - n) := hrest
            clear hrest
            go_wp2_with fail
            refine (Left_at hrx rest (by rw [List.length_drop, HR.out])).mono ?_
            rintro e w' ⟨rfl, rfl⟩
            go_wp2
            go_roundw
            case rel => exact ⟨k + 1, n, _, by go_num, rfl, by omega, by omega, hrx, hmx, hvx⟩
            case measure => simp [intOf]; omega
      · obtain ⟨⟨x, z, e0⟩, hN⟩ : ∃ N, num 0 0 (B.drop n) = N := ⟨_, rfl⟩
        by_cases hE : octE d.v (B.drop n) = 0
        · obtain ⟨rfl, xn, zn, rfl, rfl, hz1, hzx, hol, hk3⟩ := oct_facts hrngL hN hE
          have HE : Hid (octE d.v (B.drop n) = 0) := hE
          have HN : Hid (num 0 0 (B.drop n) = ((xn : Int), (zn : Int), 0)) := hN
          have H3 : Hid (enc xn ++ ((B.drop n).drop zn).take xn = (B.drop n).take (zn + xn)) := hk3
          have HOL : Hid ((((B.drop n).drop zn).take xn).length = xn) := hol
          clear hE hN hk3 hol
          go_wp2_with fail
          refine (Octets_at hr2 d.v (by omega) HE.out xn zn (((B.drop n).drop zn).take xn) _ HN.out rfl rfl).mono ?_
          rintro e' w3 ⟨vc, v3, rfl, hoc, hr3, hm3, hgc, hv3⟩
          have hw3 := hw2.mod hm3 hpw (fun g hg => by simp [Value.ownBlock] at hg)
          have hmw3 : Mod (fun _ => False) w w3 := hmw2.trans hm3 (fun _ _ h => h) (fun i hi h => by omega)
          have hvx : ∀ g, v3.ownBlock = some g → w.heap.size ≤ g := fun g h => hv g (hv3 g h)
          have hsc := hoc.sl (fun c hc => hrngL c (List.mem_of_mem_drop (List.mem_of_mem_take hc)))
          have hdc : ∀ g, vc.ownBlock = some g → g ≠ pw := fun g hg => by have := hgc g hg; omega
          clear hr2 hmw2 hw2 hcells c0 c1 c2 hoc
          go_wp2_with fail
          refine (WOctets_any _ _ _ _ _ _ hw3 hsc (fun _ g hg => ⟨hdc g hg, by simp [Value.ownBlock]⟩) (by rw [HOL.out]; simp; omega)).mono ?_
          rintro e' w4 ⟨rfl, v4, hw4, hm4, hf4⟩
          rw [HOL.out, List.append_assoc, H3.out] at hw4
          obtain ⟨kk, hkk⟩ : ∃ kk, kk = zn + xn := ⟨_, rfl⟩
          rw [← hkk] at hw4 hr3
          have hk1 : 1 ≤ kk := by omega
          have hk2 : kk ≤ (B.drop n).length := by omega
          clear hkk hz1 hzx
          have hmx : Mod (fun _ => False) w w4 := hmw3.trans hm4 (fun _ _ h => h) (fun i hi h => by rcases h with h | h; omega; simp [Value.ownBlock] at h)
          have hT : [] ++ (B.drop n).take kk = (B.drop n).take kk := rfl
          have hrx : Rd w4 p v3 ((B.drop n).drop kk) := hr3.mod2 hm4 (fun h => by rcases h with h | h; exact hpw h.symm; simp [Value.ownBlock] at h) (fun hne g hg h => by rcases h with h | h; (have := hvl (by intro e; rw [e] at hne; simp at hne) g (hv3 g hg); omega); simp [Value.ownBlock] at h)
          have hw := hw4
          clear hr3 hm3 hm4 hw3 hw4 hf4 hmw3 H3 HOL hsc hdc hgc
          have hTl : ([] ++ (B.drop n).take kk).length = kk := by rw [hT, List.length_take]; omega
          have hBne : B ≠ [] := by intro e; rw [e] at hk2; simp at hk2; omega
          obtain ⟨bb, bo, rfl, _⟩ := hbf hBne
          have hcut := hb.cut n (n + kk) (by omega) (by omega)
          rw [if_neg (by omega), show n + kk - n = kk from by omega, Nat.mul_one, Option.map_some, add_at] at hcut
          have hrT : ∀ c ∈ [] ++ (B.drop n).take kk, 0 ≤ c ∧ c ≤ 255 := hw.rng
          generalize hTe : [] ++ (B.drop n).take kk = T at *
          go_wp2_with fail
          refine (Bytes_any _ _ _ _ hw (by omega)).mono ?_
          rintro e w5 ⟨vo, rfl, ho, hm5, _⟩
          obtain ⟨og, oc, rfl, _, _⟩ := ho.form (by omega)
          have hso : Sl w5 (.slice (some ⟨og, 0, none⟩) kk oc) T := by have := ho.sl hrT; rwa [hTl] at this
          have hmw5 : Mod (fun _ => False) w w5 := hmx.trans hm5 (fun _ _ h => h) (fun _ _ h => h)
          have hr5 := hrx.mod hm5 (fun h => h) (fun _ _ h => h)
          have hc5 := hcut.mod hmw5 (fun _ _ h => h)
          have hcn : ¬ cb = n := by omega
          have hle : (n : Int) + (kk : Int) ≤ (B.length : Int) := by omega
          rw [hTl]
          have HT : Hid (T = (B.drop n).take kk) := hT
          clear hT hTe hTl ho hcut hm5 hrx hmx hBne hbf hb hrngL hvl hL hk2 hv hrT hw
          go_wp2_with fail
          refine (EqBytes_at true hso hc5 (by simpa using HT.out)).mono ?_
          rintro e w6 ⟨rfl, hm6⟩
          have hmw6 : Mod (fun _ => False) w w6 := hmw5.trans hm6 (fun _ _ h => h) (fun _ _ h => h)
          have hr6 := hr5.mod hm6 (fun h => h) (fun _ _ h => h)
          rw [List.drop_drop] at hr6
          obtain ⟨rest, hrest⟩ : ∃ rest : Nat, rest = B.length - (n + kk) := ⟨_, rfl⟩
          have hbool : ((rest : Int) != (B.length : Int) - ((n : Int) + (kk : Int))) = false := by simp; omega
          have HR : Hid (rest = B.length - (n + kk)) := hrest
          clear hrest hm6 hr5 hso hc5
          go_wp2_with fail
          refine (Left_at hr6 rest (by rw [List.length_drop, HR.out])).mono ?_
          rintro e w' ⟨rfl, rfl⟩
          go_wp2
          go_roundw
          case rel => exact ⟨k + 1, n + kk, _, by go_num, by go_num, by omega, by omega, hr6, hmw6, hvx⟩
          case measure => simp [intOf]; omega
        · clear hN
          obtain ⟨e, hEe⟩ : ∃ e, octE d.v (B.drop n) = e := ⟨_, rfl⟩
          have hb1 := Octets_bad _ _ _ d.v _ hr2 hE
          rw [hEe] at hb1 hE
          have heb : (e == 0) = false := by simp [hE]
          have HB := hb1
          clear hEe hE hb1
          go_wp2_with fail
          refine HB.mono ?_
          rintro e' w3 ⟨rfl, rfl⟩
          go_wp2_with fail
          refine (WOctets_any _ _ _ _ [] _ hw2 ((Own.nil _).sl (by simp)) (fun h => absurd rfl h) (by simp)).mono ?_
          rintro e' w4 ⟨rfl, v4, hw4, hm4, hf4⟩
          have hmx : Mod (fun _ => False) w w4 := hmw2.trans hm4 (fun _ _ h => h) (fun i hi h => by rcases h with h | h; omega; simp [Value.ownBlock] at h)
          have hrx : Rd w4 p v (B.drop n) := hr2.mod2 hm4 (fun h => by rcases h with h | h; exact hpw h.symm; simp [Value.ownBlock] at h) (fun hne g hg h => by rcases h with h | h; (have := hvl hne g hg; omega); simp [Value.ownBlock] at h)
          have hvx := hv
          clear hr2 hw2 hmw2 hm4 hcells c0 c1 c2 hw4 hf4
          obtain ⟨rest, hrest⟩ : ∃ rest : Nat, rest = B.length - n := ⟨_, rfl⟩
          have hbool : ((rest : Int) != (B.length : Int) - (n : Int)) = false := by simp; omega
          have HR : Hid (rest = B.length - n) := hrest
          clear hrest
          go_wp2_with fail
          refine (Left_at hrx rest (by rw [List.length_drop, HR.out])).mono ?_
          rintro e w' ⟨rfl, rfl⟩
          go_wp2
          go_roundw
          case rel => exact ⟨k + 1, n, _, by go_num, rfl, by omega, by omega, hrx, hmx, hvx⟩
          case measure => simp [intOf]; omega
    · go_wp2
      go_ret
      exact ⟨rfl, hm⟩

namespace wordOnce
open Go.ChangeShapes Go.WideShapes Go.ChangeAt Go.RowKit
theorem own : ownKnob Try.prog.godebug = none := by kernel_rfl
theorem laidOut : laidOutB Try.prog = true := by kernel_rfl
theorem bytes5 : Try.prog.bytesOf 5 = 1 := by kernel_rfl
set_option maxRecDepth 100000 in
theorem lifted (os : Os) (started : os.Started) (H : Type) (enc : TypeId × Value → H) :
    ReturnsInHanded {} Try.checked os 6 .any (Rows.wordOnceSpec.pre6 enc Try.prog Try.f6 Rows.wordOnceRow.domain false) (Rows.wordOnceSpec.post enc Try.prog Try.f6 false true false false) := by
  refine returnsInHanded_of_change_sized (C := Try.checked) own started (by kernel_rfl) Try.func6
    (ChangeSpec.witness6 (enc := enc) (C := Try.checked) false ⟨#[], #[.slice none 0 0, .slice none 0 0], []⟩ 8 (by kernel_rfl) (by kernel_rfl) (by kernel_rfl) (by kernel_rfl)) ?_
  intro W base args ds gs before hval0 hW hcnd hsz0 _
  have hval : ∀ (j : Nat) t v, Try.f6.params[j]? = some t → args[j]? = some v → Value.okWide Try.prog W .any base t v := hval0
  have hsz : (DataW.weightsEach Try.prog (Try.f6.params.toList ++ Rows.wordOnceSpec.plain.varTypes Try.prog) (ds ++ gs)).all (· ≤ reachBytes) = true := hsz0
  have hW' := hW
  obtain ⟨p, q, hA0, hV, rfl, hfz, hnd⟩ := hW
  have hA : DataW.TrodAll enc Try.prog W 0 (fun _ => true) true Try.f6.params.toList args.toList ds p := hA0
  rw [Try.params6] at hA hval hsz
  obtain ⟨v0, vs0, d0, ds0, p0, q0, hargs, rfl, rfl, h0, r0⟩ := trodAll_cons hA
  obtain ⟨v1, vs1, d1, ds1, p1, q1, rfl, rfl, rfl, h1, r1⟩ := trodAll_cons r0
  obtain ⟨rfl, rfl, rfl⟩ := trodAll_nil r1
  obtain rfl : args = #[v0, v1] := by cases args; simp_all
  obtain ⟨rfl, rfl⟩ := trodVars_none hV
  have hs0 := okWide_slice Try.underlying29 (hval 0 29 v0 rfl rfl)
  have hs1 := okWide_slice Try.underlying22 (hval 1 22 v1 rfl rfl)
  have k0 := h0
  have k1 := h1
  have lt0 : ∀ x ∈ p0, x.block < W.heap.size := by obtain ⟨m, hm⟩ := k0; exact DataW.trod_lt m _ _ _ hm
  have lt1 : ∀ x ∈ p1, x.block < W.heap.size := by obtain ⟨m, hm⟩ := k1; exact DataW.trod_lt m _ _ _ hm
  obtain ⟨dl, hdeeds, _⟩ := open_deeds h1 hs1
  obtain ⟨B, hB, hBl⟩ : ∃ B, Sl W v0 B ∧ B.length ≤ 140737488351232 := by
    obtain ⟨ao, len, cap, rfl⟩ := hs0
    obtain ⟨fuel, hf⟩ := h0
    obtain ⟨B, hB, hbulk, hx⟩ := sl_of_trod (c := .slice ao len cap) (by simpa [Value.cells] using hf)
    refine ⟨B, hB, ?_⟩
    simp only at hbulk hx
    rcases hx with rfl | ⟨e, s, rfl, hlen⟩
    · simp [Rows.uptoBulk] at hbulk; simp [hbulk]
    · have := sized_slice hsz (j := 0) (t := 29) (e := 5) rfl rfl Try.underlying29
      rw [bytes5] at this
      simp only [reachBytes] at this
      omega
  clear hA0 hval0
  refine (once_walk v0 v1 B dl W hB hdeeds hBl).mono fun e W' ⟨he, hm⟩ => ?_
  subst he
  have bel : Below W.heap.size W W' := hm.below _ (Nat.le_refl _) (fun _ h => h.elim)
  exact ⟨_, rfl, _, _, _, [], _, [], hW', trodAll_mk1 (shut_bool Try.underlying4 _), (trodAll_cons_mk (Below.trod laidOut (by kernel_rfl) (of_decide_eq_true (by kernel_rfl)) k0 bel lt0) (trodAll_cons_mk (Below.trod laidOut (by kernel_rfl) (of_decide_eq_true (by kernel_rfl)) k1 bel lt1) trodAll_mk0)), rfl, bel.frame _, fun h => by cases h⟩

theorem over : Rows.wordOnceRow.holds Try.pinned (OpenSpec.ofChange Rows.wordOnceSpec) :=
  OpenClaim.holds_of_wide 6 Try.f6 rfl rfl rfl rfl rfl rfl rfl ⟨rfl, rfl, rfl, rfl, rfl⟩ rfl rfl rfl rfl rfl (by kernel_rfl) Try.func6 (by kernel_rfl)
    (of_decide_eq_true (by kernel_rfl)) (by unfold Func.isWrapper; first | (rw [if_pos (by decide +kernel)]; kernel_rfl) | (rw [if_neg (by decide +kernel)]; exact ⟨rfl, rfl⟩))
    (fun os started H enc _ => lifted os started H enc)
end wordOnce
theorem wordOnce_holds : Rows.WordOnceSaid := wordOnce.over
end Go.Proofs.Ytfinaabhmdnjfaa
