/- Contracts of an order's New, isNone, Done, Next; plain: which data are delivered. Conditions: numbers up to 1000000. -/
import Derived.Test.YtampdkbcijdpcaaYg
import Derived.Deep.CutBlock
import Derived.WalkMore
namespace Go.Proofs.Ytampdkbcijdpcaa
open Go.RowKit Go.Maps
/-- An order that has come as far as N. -/
structure Oq (w : World) (q : Nat) (N : Int) : Prop where
  blk : Bk w q 110 #[.bool true, .int .i64 N]
theorem Oq.mod {S : Nat → Prop} {w w' : World} {q : Nat} {N : Int} (h : Oq w q N) (hm : Mod S w w') (hq : ¬ S q) : Oq w' q N := ⟨h.blk.mod hm hq⟩
theorem Oq.keep {w w' : World} {q : Nat} {N : Int} (h : Oq w q N) (hm : Mod (fun _ => False) w w') : Oq w' q N := h.mod hm (fun h => h)
theorem oNew (w : World) : Calls Try.prog 47 #[] w fun e w' => ∃ q, e = .returned (.pointer (some ⟨q, 0, none⟩)) ∧ Oq w' q 0 ∧ w.heap.size ≤ q ∧ Mod (fun _ => False) w w' := by
  go_enter Try.func47, Try.ntmps47
  go_wp2
  go_ret
  exact ⟨w.heap.size, rfl, ⟨Bk.new w _ _⟩, Nat.le_refl _, (Mod.refl _ w).alloc _⟩
theorem oNone_w {w : World} {q : Nat} {N : Int} (h : Oq w q N) : Calls Try.prog 69 #[.pointer (some ⟨q, 0, none⟩)] w fun e w' => e = .returned (.bool false) ∧ w' = w := by
  have c0 : w.cell? ⟨q, 0, none⟩ = some (.bool true) := h.blk.cellv (j := 0) rfl
  clear h
  go_enter Try.func69, Try.ntmps69
  go_wp2
  go_ret
  exact ⟨rfl, rfl⟩
theorem Done_w {w : World} {q : Nat} {N : Int} (h : Oq w q N) : Calls Try.prog 49 #[.pointer (some ⟨q, 0, none⟩)] w fun e w' => e = .returned (.int .i64 N) ∧ w' = w := by
  have c1 : w.cell? ⟨q, 1, none⟩ = some (.int .i64 N) := h.blk.cellv (j := 1) rfl
  have HN := oNone_w h
  clear h
  go_enter Try.func49, Try.ntmps49
  go_wp2_with (go_at_call 69; refine HN.mono ?_; rintro e w' ⟨rfl, rfl⟩)
  go_ret
  exact ⟨rfl, rfl⟩
theorem See_neg {w : World} {p : Nat} {X : Nat → Prop} {J : Int → Option Dt} {a h : Int} {n : Nat} (hw : Wn w p X J a h n) : Calls Try.prog 56 #[.pointer (some ⟨p, 0, none⟩), .int .i64 (-1)] w fun e w' => e = .returned (.int .i64 2) ∧ w' = w := by
  obtain ⟨B, V, N, h1, h2, _⟩ := hw.mem.blk
  have HN := isNone_w (w := w) (p := p) (B := B) (h1.cellv (j := 0) rfl)
  clear h1 h2 hw
  go_enter Try.func56, Try.ntmps56
  go_wp2_with (go_at_call 28; refine HN.mono ?_; rintro e w' ⟨rfl, rfl⟩)
  go_ret
  exact ⟨rfl, rfl⟩
theorem noWin_w {w : World} {p : Nat} {X : Nat → Prop} {J : Int → Option Dt} {a h : Int} {n : Nat} (hw : Wn w p X J a h n) : Calls Try.prog 70 #[.pointer (some ⟨p, 0, none⟩)] w fun e w' => e = .returned (.bool false) ∧ w' = w := by
  have HN := See_neg hw
  clear hw
  go_enter Try.func70, Try.ntmps70
  go_wp2_with (go_at_call 56; refine HN.mono ?_; rintro e w' ⟨rfl, rfl⟩)
  go_ret
  exact ⟨rfl, rfl⟩
/-- Whether it goes on over the number k. -/
def gon (J : Int → Option Dt) (s k : Int) : Bool := match J k with | none => false | some d => (d.m.kind == 5) || !(d.m.safe && decide (s < k))
/-- What is delivered of the number k. -/
def dk (J : Int → Option Dt) (k : Int) : List Dt := match J k with | none => [] | some d => if d.m.kind = 5 then [] else [d]
/-- What is delivered of t numbers behind N. -/
def dl (J : Int → Option Dt) (N : Int) : Nat → List Dt
  | 0 => []
  | t + 1 => dl J N t ++ dk J (N + t + 1)
theorem dk_len (J : Int → Option Dt) (k : Int) : (dk J k).length ≤ 1 := by
  unfold dk
  split
  · simp
  · split <;> simp
theorem dl_len (J : Int → Option Dt) (N : Int) : ∀ t, (dl J N t).length ≤ t
  | 0 => by simp [dl]
  | t + 1 => by have := dl_len J N t; have := dk_len J (N + t + 1); simp [dl]; omega
/-- Behind N it goes on for just t numbers. -/
structure Nx (J : Int → Option Dt) (s N : Int) (t : Nat) : Prop where
  on : ∀ i : Nat, i < t → gon J s (N + i + 1) = true
  off : gon J s (N + t + 1) = false
theorem gon_some {J : Int → Option Dt} {s k : Int} (h : gon J s k = true) : (J k).isSome = true := by
  unfold gon at h
  split at h
  · cases h
  · rename_i e; simp [e]
/-- As far as all is there. -/
theorem on_le {J : Int → Option Dt} {a h s N : Int} {t : Nat} (hp : Wp J a h) (hN : 0 ≤ N ∧ N ≤ a) (ho : ∀ i : Nat, i < t → gon J s (N + i + 1) = true) : N + t ≤ a := by
  rcases Int.lt_or_le a (N + t) with h1 | h1
  · exfalso
    have := gon_some (ho (a - N).toNat (by omega))
    rw [show N + ((a - N).toNat : Int) + 1 = a + 1 by omega, hp.aru.2.2] at this
    cases this
  · exact h1
/-- How far the order in the block q has come. -/
def farO (w : World) (q : Nat) : Int := match w.cell? ⟨q, 1, none⟩ with | some (.int _ x) => x | _ => 0
theorem Oq.far {w : World} {q : Nat} {N : Int} (h : Oq w q N) : farO w q = N := by
  unfold farO
  rw [h.blk.cellv (j := 1) rfl]
  rfl
theorem Oq.ne {w : World} {q n : Nat} {N : Int} {v : Value} {cs : List Value} (h : Oq w q N) (hr : RG w 44 18 v n cs) : v.ownBlock ≠ some q := fun e => by
  obtain ⟨cur, hc⟩ := hr.kind e
  rw [h.blk.at'] at hc
  simp at hc
theorem Oq.set {w : World} {q : Nat} {N : Int} (h : Oq w q N) (x : Int) : Oq (w.setCell ⟨q, 1, none⟩ (.int .i64 x)) q x := ⟨h.blk.set 1 (.int .i64 x)⟩
theorem dl_next {J : Int → Option Dt} {N M : Int} {t : Nat} (h : M = N + (t : Int)) : dl J N (t + 1) = dl J N t ++ dk J (M + 1) := by rw [dl, h]
theorem on_next {J : Int → Option Dt} {s N M : Int} {t : Nat} (h : M = N + (t : Int)) (ho : ∀ i : Nat, i < t → gon J s (N + i + 1) = true) (hg : gon J s (M + 1) = true) : ∀ i : Nat, i < t + 1 → gon J s (N + i + 1) = true := fun i hi => by
  rcases Nat.lt_or_ge i t with h1 | h1
  · exact ho i h1
  · obtain rfl : i = t := by omega
    rw [← h]
    exact hg
/-- What Next leaves. -/
structure Np (w w' : World) (q : Nat) (J : Int → Option Dt) (s N : Int) (v : Value) (ds : List (Dt × Value)) (t : Nat) : Prop where
  row : Rd18 w' w.heap.size v ds
  map : ds.map (·.1) = dl J N t
  nx : Nx J s N t
  ord : Oq w' q (N + t)
  mod : Mod (fun i => i = q) w w'
set_option maxRecDepth 100000 in
set_option maxHeartbeats 4000000 in
theorem Next_w {w : World} {p q : Nat} {X : Nat → Prop} {J : Int → Option Dt} {a h N : Int} {n : Nat} (hw : Wn w p X J a h n) (ho : Oq w q N) (hq : ¬ X q) (hN : 0 ≤ N ∧ N ≤ a) (hh : h ≤ 1000000) (s : Int) :
    Calls Try.prog 48 #[.pointer (some ⟨q, 0, none⟩), .pointer (some ⟨p, 0, none⟩), .int .i64 s] w fun e w' => ∃ v ds t, e = .returned (.tuple #[v, .int .i64 0]) ∧ Np w w' q J s N v ds t := by
  have HW : Hid (Wn w p X J a h n) := hw
  have HX : Hid (∀ i, X i → ¬ i = q) := fun i hi e => hq (e ▸ hi)
  have HO := oNone_w ho
  have HNW := noWin_w hw
  have HOQ : Hid (Oq w q N) := ho
  have HA : Hid (0 ≤ N ∧ N ≤ a ∧ a ≤ 1000000) := by have := hw.wp.a_le; exact ⟨hN.1, hN.2, by omega⟩
  clear hw ho hq hN hh
  go_enter Try.func48, Try.ntmps48
  go_wp2_with (fail)
  go_step3
  go_wp2_with (first | (go_at_call 69; refine HO.mono ?_; rintro e w' ⟨rfl, rfl⟩) | (go_at_call 70; refine HNW.mono ?_; rintro e w'' ⟨rfl, rfl⟩))
  go_step3
  clear HO HNW
  obtain ⟨w, ew⟩ : ∃ w, w = w'' := ⟨_, rfl⟩
  subst ew
  go_wp2_with (fail)
  go_loopw [8] (fun v wr => ∃ (t : Nat) (ds : List (Dt × Value)), Rd18 wr w.heap.size v ds ∧ Hid (ds.map (·.1) = dl J N t) ∧ Hid (∀ i : Nat, i < t → gon J s (N + i + 1) = true) ∧ Oq wr q (N + t) ∧ Mod (fun i => i = q) w wr) (fun _ wr => (a - farO wr q).toNat)
  case atStart => exact ⟨0, [], Rd18.nil _ _, rfl, (fun i hi => by omega), by simpa using HOQ.out, Mod.refl _ _⟩
  case round =>
    obtain ⟨t, ds, hR, hmap, hall, hO, hMr⟩ := hrel
    obtain ⟨av, cv, rfl⟩ := hR.row.shape
    have hle := on_le HW.out.wp ⟨HA.out.1, HA.out.2.1⟩ hall.out
    obtain ⟨M, hM⟩ : ∃ M : Int, M = N + (t : Int) := ⟨_, rfl⟩
    rw [← hM] at hO hle
    have HME : Hid (M = N + (t : Int)) := hM
    have hM0 : 0 ≤ M := by have := HA.out; omega
    have hM1 : M ≤ 1000000 := by have := HA.out; omega
    have HLE : Hid (M ≤ a) := hle
    have c1 : wr.cell? ⟨q, 1, none⟩ = some (.int .i64 M) := hO.blk.cellv (j := 1) rfl
    have hWr := HW.out.mod hMr HX.out
    have HLN : Hid (ds.length ≤ 1000000) := by
      have h1 := dl_len J N t
      have h2 := congrArg List.length hmap.out
      simp at h2
      have := HA.out
      show _ ≤ _
      omega
    clear hM hle
    go_wp2_with (fail)
    refine (Get_w hWr (M + 1) (by unfold I64; omega)).mono ?_
    rintro e w2 ⟨u, rfl, hou, hm2, hg2⟩
    have hO2 := hO.keep hm2
    have hR2 := hR.keep hm2
    have hM2 : Mod (fun i => i = q) w w2 := hMr.trans hm2 (fun _ _ h => h) (fun _ _ h => h.elim)
    have hs2 : w.heap.size ≤ w2.heap.size := hM2.size
    have HU : Hid (∀ g, u.ownBlock = some g → w.heap.size ≤ g) := fun g hg => Nat.le_trans hMr.size (hg2 g hg)
    have HWR : Hid (Wn wr p X J a h n) := hWr
    have HOW : Hid (Oq wr q M) := hO
    clear c1 hO hR hMr hm2 hg2 hWr
    have hZ : Hid (Bk _ _ _ _) := Bk.new w2 #[.int .i64 0, .int .i64 0, .int .i64 0, .int .i64 0, .int .i64 0, .int .i64 0, .int .i64 0, .int .i64 0, .int .i64 0, .int .i64 0, .int .i64 0, .int .i64 0, .bool false, .int .i64 0, .int .i64 0, .int .i64 0, .int .i64 0, .slice none 0 0] 44
    have hA := (Mod.refl (fun _ => False) w2).alloc (.cells #[.int .i64 0, .int .i64 0, .int .i64 0, .int .i64 0, .int .i64 0, .int .i64 0, .int .i64 0, .int .i64 0, .int .i64 0, .int .i64 0, .int .i64 0, .int .i64 0, .bool false, .int .i64 0, .int .i64 0, .int .i64 0, .int .i64 0, .slice none 0 0] 44)
    have HQL : Hid (q < w.heap.size) := HOQ.out.blk.lt
    cases hJ : J (M + 1) with
    | none =>
      rw [hJ] at hou
      simp only [Option.isSome_none, Option.getD_none] at hou ⊢
      obtain ⟨ao, cp, rfl⟩ : ∃ ao cp, u = .slice ao 0 cp := hou.shape
      have HG : Hid (gon J s (M + 1) = false) := by simp [Hid, gon, hJ]
      clear hJ
      unfold dv d0
      go_wp2_with (refine wpList_store_row info18 rfl rfl _ _ rfl w2.heap.size #[.int .i64 0, .int .i64 0, .int .i64 0, .int .i64 0, .int .i64 0, .int .i64 0, .int .i64 0, .int .i64 0, .int .i64 0, .int .i64 0, .int .i64 0, .int .i64 0, .bool false, .int .i64 0, .int .i64 0, .int .i64 0, .int .i64 0, .slice ao 0 cp] rfl rfl hZ.out rfl rfl rfl ?_; intro wF hBF hMF)
      rw [Exit.noGoto_ret]
      go_ret2
      exact ⟨_, ds, t, rfl, ⟨hR2.keep (hA.trans hMF (V := fun _ => False) (fun _ _ h => h) (fun i hi h => by omega)), hmap.out, ⟨hall.out, by rw [← HME.out]; exact HG.out⟩, by rw [← HME.out]; exact hO2.keep (hA.trans hMF (V := fun _ => False) (fun _ _ h => h) (fun i hi h => by omega)), hM2.trans (hA.trans hMF (V := fun _ => False) (fun _ _ h => h) (fun i hi h => by omega)) (fun _ _ h => h) (fun _ _ h => h.elim)⟩⟩
    | some d =>
      rw [hJ] at hou
      simp only [Option.isSome_some, Option.getD_some] at hou ⊢
      obtain ⟨ao, cp, rfl⟩ := hou.shape
      obtain ⟨hdn, -, -, hrng, -⟩ := HWR.out.wp.each _ d hJ
      have HDN : Hid (d.n = M + 1) := hdn
      have HRNG : Hid (∀ c ∈ d.m.body, 0 ≤ c ∧ c ≤ 255) := hrng
      have HJ : Hid (J (M + 1) = some d) := hJ
      clear hJ hdn hrng
      unfold dv
      by_cases hk : d.m.kind = 5
      · have hkb : (d.m.kind == 5) = true := by simp [hk]
        have HG : Hid (gon J s (M + 1) = true) := by simp [Hid, gon, HJ.out, hkb]
        have HLA : Hid (M + 1 ≤ a) := by
          have := on_le HW.out.wp ⟨HA.out.1, HA.out.2.1⟩ (on_next HME.out hall.out HG.out)
          have e := HME.out
          show _ ≤ _
          omega
        have HMP : Hid (ds.map (·.1) = dl J N (t + 1)) := by
          show _ = _
          rw [dl_next HME.out, hmap.out]
          simp [dk, HJ.out, hk]
        clear hk
        go_wp2_with (refine wpList_store_row info18 rfl rfl _ _ rfl w2.heap.size #[.int .i64 d.q, .int .i64 d.r, .int .i64 d.n, .int .i64 d.s, .int .i64 d.t, .int .i64 d.m.kind, .int .i64 d.m.origin, .int .i64 d.m.life, .int .i64 d.m.id, .int .i64 d.m.part, .int .i64 d.m.parts, .int .i64 d.m.groups, .bool d.m.safe, .int .i64 d.m.st, .int .i64 d.m.rs, .int .i64 d.m.rr, .int .i64 d.m.sq, .slice ao d.m.body.length cp] rfl rfl hZ.out rfl rfl rfl ?_; intro wF hBF hMF; have c5 := hBF.cellv (j := 5) rfl; have hFF := hA.trans hMF (V := fun _ => False) (fun _ _ h => h) (fun i hi h => by omega); have hOF := hO2.keep hFF; have cq := hOF.blk.cellv (j := 1) rfl; have fq := hOF.blk.frz 1)
        have hRF := hR2.keep hFF
        have hMF2 : Mod (fun i => i = q) w wF := hM2.trans hFF (fun _ _ h => h) (fun _ _ h => h.elim)
        have HRr : Hid (Rd18 _ w.heap.size _ _) := hRF.mod ((Mod.refl (fun i => i = q) _).setCell ⟨q, 1, none⟩ (.int .i64 (M + 1)) (.inl rfl)) (fun g hg e => by have := HQL.out; omega)
        have HOr : Hid (Oq _ q (M + 1)) := hOF.set (M + 1)
        have HMr : Hid (Mod (fun i => i = q) w _) := hMF2.setCell ⟨q, 1, none⟩ (.int .i64 (M + 1)) (.inl rfl)
        clear hRF hMF2 hBF hMF hFF hOF hR2 hO2 hM2 c5 cq fq hA hou hs2
        go_roundw
        case rel => exact ⟨t + 1, _, HRr.out, HMP, on_next HME.out hall.out HG.out, by rw [show N + ((t + 1 : Nat) : Int) = M + 1 by have := HME.out; omega]; exact HOr.out, HMr.out⟩
        case measure =>
          have e1 := HOr.out.far
          have e2 := HOW.out.far
          have := HLA.out
          simp only [e1, e2]
          omega
      · have hkb : (d.m.kind == 5) = false := by simp [hk]
        have HK : Hid (d.m.kind ≠ 5) := hk
        clear hk
        rcases Bool.eq_false_or_eq_true d.m.safe with hsf | hsf
        · have HSF : Hid (d.m.safe = true) := hsf
          by_cases hsn : s < d.n
          · have HG : Hid (gon J s (M + 1) = false) := by
              have := HDN.out
              have h2 : s < M + 1 := by omega
              simp [Hid, gon, HJ.out, hkb, hsf, h2]
            clear hsf
            go_wp2_with (refine wpList_store_row info18 rfl rfl _ _ rfl w2.heap.size #[.int .i64 d.q, .int .i64 d.r, .int .i64 d.n, .int .i64 d.s, .int .i64 d.t, .int .i64 d.m.kind, .int .i64 d.m.origin, .int .i64 d.m.life, .int .i64 d.m.id, .int .i64 d.m.part, .int .i64 d.m.parts, .int .i64 d.m.groups, .bool d.m.safe, .int .i64 d.m.st, .int .i64 d.m.rs, .int .i64 d.m.rr, .int .i64 d.m.sq, .slice ao d.m.body.length cp] rfl rfl hZ.out rfl rfl rfl ?_; intro wF hBF hMF; have c5 := hBF.cellv (j := 5) rfl; have c12 := hBF.cellv (j := 12) rfl; rw [HSF.out] at c12; have c2 := hBF.cellv (j := 2) rfl)
            rw [Exit.noGoto_ret]
            go_ret2
            exact ⟨_, ds, t, rfl, ⟨hR2.keep (hA.trans hMF (V := fun _ => False) (fun _ _ h => h) (fun i hi h => by omega)), hmap.out, ⟨hall.out, by rw [← HME.out]; exact HG.out⟩, by rw [← HME.out]; exact hO2.keep (hA.trans hMF (V := fun _ => False) (fun _ _ h => h) (fun i hi h => by omega)), hM2.trans (hA.trans hMF (V := fun _ => False) (fun _ _ h => h) (fun i hi h => by omega)) (fun _ _ h => h) (fun _ _ h => h.elim)⟩⟩
          · have HG : Hid (gon J s (M + 1) = true) := by
              have := HDN.out
              have h2 : ¬ s < M + 1 := by omega
              simp [Hid, gon, HJ.out, h2]
            clear hsf
            have HLA : Hid (M + 1 ≤ a) := by
              have := on_le HW.out.wp ⟨HA.out.1, HA.out.2.1⟩ (on_next HME.out hall.out HG.out)
              have e := HME.out
              show _ ≤ _
              omega
            go_upto_region 5 with (refine wpList_store_row info18 rfl rfl _ _ rfl w2.heap.size #[.int .i64 d.q, .int .i64 d.r, .int .i64 d.n, .int .i64 d.s, .int .i64 d.t, .int .i64 d.m.kind, .int .i64 d.m.origin, .int .i64 d.m.life, .int .i64 d.m.id, .int .i64 d.m.part, .int .i64 d.m.parts, .int .i64 d.m.groups, .bool d.m.safe, .int .i64 d.m.st, .int .i64 d.m.rs, .int .i64 d.m.rr, .int .i64 d.m.sq, .slice ao d.m.body.length cp] rfl rfl hZ.out rfl rfl rfl ?_; intro wF hBF hMF; have c5 := hBF.cellv (j := 5) rfl; have c12 := hBF.cellv (j := 12) rfl; rw [HSF.out] at c12; have c2 := hBF.cellv (j := 2) rfl; have hFF := hA.trans hMF (V := fun _ => False) (fun _ _ h => h) (fun i hi h => by omega); have hOF := hO2.keep hFF; have cq := hOF.blk.cellv (j := 1) rfl; have fq := hOF.blk.frz 1)
            have hRF := hR2.keep hFF
            have hoF := hou.mod hFF (fun _ _ h => h)
            have hMF2 : Mod (fun i => i = q) w wF := hM2.trans hFF (fun _ _ h => h) (fun _ _ h => h.elim)
            have hA3 := (Mod.refl (fun _ => False) wF).alloc (.cells (dcl d (.slice ao d.m.body.length cp)).toArray 44)
            have hR3 := hRF.keep hA3
            have hO3 := hOF.keep hA3
            have ho3 := hoF.mod hA3 (fun _ _ h => h)
            have hM3 : Mod (fun i => i = q) w _ := hMF2.trans hA3 (fun _ _ h => h) (fun _ _ h => h.elim)
            have hSG := SG.lit wF 44 (dcl d (.slice ao d.m.body.length cp)) (dcl_one d ao _ cp)
            have HB : Hid (Bk _ _ _ _) := hBF
            have HNE : Hid ((Value.slice av ds.length cv).ownBlock ≠ some q) := hO3.ne hR3.row
            have HSZ : Hid (w.heap.size ≤ (wF.alloc (.cells (dcl d (.slice ao d.m.body.length cp)).toArray 44)).heap.size) := hM3.size
            have HBND : Hid ((ds.length + 1) * 160 ≤ 140737488355328 ∧ ds.length + 1 ≤ 9223372036854775807) := by
              have := HLN.out
              constructor <;> omega
            unfold dcl at hSG
            clear hBF hMF hFF hRF hoF hMF2 hA3 hO2 hR2 hM2 hOF c5 c12 c2 cq fq hA hou hs2
            go_wp2_with (first | (refine wpList_load_row info18 Try.underlying44 rfl rfl _ rfl w2.heap.size rfl HB.out rfl ?_; simp only [Act.put, List.setIfInBounds_toArray, List.set_cons_succ, List.set_cons_zero]) | (at_builtin; refine wpList_appG elD rfl _ _ rfl _ _ ds.length 1 (fd ds) _ rfl rfl hR3.row hSG HBND.out.1 HBND.out.2 (ds.length + 1) rfl ?_; intro ax cx w4 hRG4 hm4 hf4; have hO4 := hO3.mod hm4 HNE.out; have cq := hO4.blk.cellv (j := 1) rfl; have fq := hO4.blk.frz 1))
            have hR4 := hR3.more hm4 hRG4 hf4 HSZ.out ho3 HU.out HRNG.out
            have hM4 : Mod (fun i => i = q) w w4 := hM3.trans hm4 (fun _ _ h => h) (fun g hg e => by have := hR3.new g e; omega)
            have HMP : Hid ((ds ++ [(d, Value.slice ao d.m.body.length cp)]).map (·.1) = dl J N (t + 1)) := by
              show _ = _
              rw [dl_next HME.out, List.map_append, hmap.out]
              simp [dk, HJ.out, HK.out]
            
            have HRr : Hid (Rd18 _ w.heap.size _ _) := hR4.mod ((Mod.refl (fun i => i = q) _).setCell ⟨q, 1, none⟩ (.int .i64 (M + 1)) (.inl rfl)) (fun g hg e => by have := HQL.out; omega)
            have HOr : Hid (Oq _ q (M + 1)) := hO4.set (M + 1)
            have HMr : Hid (Mod (fun i => i = q) w _) := hM4.setCell ⟨q, 1, none⟩ (.int .i64 (M + 1)) (.inl rfl)
            clear hR4 hO4 hM4 hm4 hRG4 hf4 cq fq hR3 ho3 hM3 hSG
            go_roundw
            case rel => exact ⟨t + 1, _, HRr.out, HMP, on_next HME.out hall.out HG.out, by rw [show N + ((t + 1 : Nat) : Int) = M + 1 by have := HME.out; omega]; exact HOr.out, HMr.out⟩
            case measure =>
              have e1 := HOr.out.far
              have e2 := HOW.out.far
              have := HLA.out
              simp only [e1, e2]
              omega
        · · have HSF : Hid (d.m.safe = false) := hsf
            have HG : Hid (gon J s (M + 1) = true) := by simp [Hid, gon, HJ.out, hsf]
            clear hsf
            have HLA : Hid (M + 1 ≤ a) := by
              have := on_le HW.out.wp ⟨HA.out.1, HA.out.2.1⟩ (on_next HME.out hall.out HG.out)
              have e := HME.out
              show _ ≤ _
              omega
            go_upto_region 5 with (refine wpList_store_row info18 rfl rfl _ _ rfl w2.heap.size #[.int .i64 d.q, .int .i64 d.r, .int .i64 d.n, .int .i64 d.s, .int .i64 d.t, .int .i64 d.m.kind, .int .i64 d.m.origin, .int .i64 d.m.life, .int .i64 d.m.id, .int .i64 d.m.part, .int .i64 d.m.parts, .int .i64 d.m.groups, .bool d.m.safe, .int .i64 d.m.st, .int .i64 d.m.rs, .int .i64 d.m.rr, .int .i64 d.m.sq, .slice ao d.m.body.length cp] rfl rfl hZ.out rfl rfl rfl ?_; intro wF hBF hMF; have c5 := hBF.cellv (j := 5) rfl; have c12 := hBF.cellv (j := 12) rfl; rw [HSF.out] at c12; have c2 := hBF.cellv (j := 2) rfl; have hFF := hA.trans hMF (V := fun _ => False) (fun _ _ h => h) (fun i hi h => by omega); have hOF := hO2.keep hFF; have cq := hOF.blk.cellv (j := 1) rfl; have fq := hOF.blk.frz 1)
            have hRF := hR2.keep hFF
            have hoF := hou.mod hFF (fun _ _ h => h)
            have hMF2 : Mod (fun i => i = q) w wF := hM2.trans hFF (fun _ _ h => h) (fun _ _ h => h.elim)
            have hA3 := (Mod.refl (fun _ => False) wF).alloc (.cells (dcl d (.slice ao d.m.body.length cp)).toArray 44)
            have hR3 := hRF.keep hA3
            have hO3 := hOF.keep hA3
            have ho3 := hoF.mod hA3 (fun _ _ h => h)
            have hM3 : Mod (fun i => i = q) w _ := hMF2.trans hA3 (fun _ _ h => h) (fun _ _ h => h.elim)
            have hSG := SG.lit wF 44 (dcl d (.slice ao d.m.body.length cp)) (dcl_one d ao _ cp)
            have HB : Hid (Bk _ _ _ _) := hBF
            have HNE : Hid ((Value.slice av ds.length cv).ownBlock ≠ some q) := hO3.ne hR3.row
            have HSZ : Hid (w.heap.size ≤ (wF.alloc (.cells (dcl d (.slice ao d.m.body.length cp)).toArray 44)).heap.size) := hM3.size
            have HBND : Hid ((ds.length + 1) * 160 ≤ 140737488355328 ∧ ds.length + 1 ≤ 9223372036854775807) := by
              have := HLN.out
              constructor <;> omega
            unfold dcl at hSG
            clear hBF hMF hFF hRF hoF hMF2 hA3 hO2 hR2 hM2 hOF c5 c12 c2 cq fq hA hou hs2
            go_wp2_with (first | (refine wpList_load_row info18 Try.underlying44 rfl rfl _ rfl w2.heap.size rfl HB.out rfl ?_; simp only [Act.put, List.setIfInBounds_toArray, List.set_cons_succ, List.set_cons_zero]) | (at_builtin; refine wpList_appG elD rfl _ _ rfl _ _ ds.length 1 (fd ds) _ rfl rfl hR3.row hSG HBND.out.1 HBND.out.2 (ds.length + 1) rfl ?_; intro ax cx w4 hRG4 hm4 hf4; have hO4 := hO3.mod hm4 HNE.out; have cq := hO4.blk.cellv (j := 1) rfl; have fq := hO4.blk.frz 1))
            have hR4 := hR3.more hm4 hRG4 hf4 HSZ.out ho3 HU.out HRNG.out
            have hM4 : Mod (fun i => i = q) w w4 := hM3.trans hm4 (fun _ _ h => h) (fun g hg e => by have := hR3.new g e; omega)
            have HMP : Hid ((ds ++ [(d, Value.slice ao d.m.body.length cp)]).map (·.1) = dl J N (t + 1)) := by
              show _ = _
              rw [dl_next HME.out, List.map_append, hmap.out]
              simp [dk, HJ.out, HK.out]
            
            have HRr : Hid (Rd18 _ w.heap.size _ _) := hR4.mod ((Mod.refl (fun i => i = q) _).setCell ⟨q, 1, none⟩ (.int .i64 (M + 1)) (.inl rfl)) (fun g hg e => by have := HQL.out; omega)
            have HOr : Hid (Oq _ q (M + 1)) := hO4.set (M + 1)
            have HMr : Hid (Mod (fun i => i = q) w _) := hM4.setCell ⟨q, 1, none⟩ (.int .i64 (M + 1)) (.inl rfl)
            clear hR4 hO4 hM4 hm4 hRG4 hf4 cq fq hR3 ho3 hM3 hSG
            go_roundw
            case rel => exact ⟨t + 1, _, HRr.out, HMP, on_next HME.out hall.out HG.out, by rw [show N + ((t + 1 : Nat) : Int) = M + 1 by have := HME.out; omega]; exact HOr.out, HMr.out⟩
            case measure =>
              have e1 := HOr.out.far
              have e2 := HOW.out.far
              have := HLA.out
              simp only [e1, e2]
              omega
end Go.Proofs.Ytampdkbcijdpcaa
