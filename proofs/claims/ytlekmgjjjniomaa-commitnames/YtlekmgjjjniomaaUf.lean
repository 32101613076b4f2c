/- Contracts of commit's calls: checked, receiver, round, Visit, New, Add, Pass. Conditions: sizes that a slice has. -/
import Derived.Test.YtlekmgjjjniomaaUe
import Derived.Deep.RegionHeld3
namespace Go.Proofs.Ytlekmgjjjniomaa
open Go.RowKit
/-- How many members; which visit; what goes on. -/
def nC (c : Cm) : Int := (Cr.cn (Cr.lo c.mem) : Int)
def rnd (c : Cm) : Int := if c.hop < nC c then 1 else if c.hop < 2 * nC c then 2 else 3
def vis (c : Cm) (node : Int) : Int := if okC c = true ∧ node = rcv c then rnd c else 0
def onw (c : Cm) (l : List Ey) : Cm := ⟨c.rs, c.rr, c.mem, c.hop + 1, c.es ++ l⟩
def newC (rs rr mm : Int) (own : Ey) : Cm × Int := if okC ⟨rs, rr, mm, 1, [own]⟩ = true then (⟨rs, rr, mm, 1, [own]⟩, 0) else (Cm.zero, 2)
def addC (c : Cm) (own : Ey) : Cm × Int := if vis c own.nd = 1 ∧ okC (onw c [own]) = true then (onw c [own], 0) else (Cm.zero, 2)
def pasC (c : Cm) : Cm × Int := if okC c = true ∧ rnd c = 2 then (onw c [], 0) else (Cm.zero, 2)
theorem okC_hop {c : Cm} (h : okC c = true) : 1 ≤ c.hop ∧ c.hop ≤ 2 * nC c ∧ 0 < nC c ∧ nC c ≤ 8 ∧ (c.es.length : Int) = min c.hop (nC c) ∧ c.es.length ≤ 8 := by
  have h8 := cn_le c.mem
  simp only [okC, win, Bool.and_eq_true, decide_eq_true_eq] at h
  obtain ⟨⟨⟨⟨⟨⟨_, h0⟩, _⟩, _⟩, h1, h2⟩, h3⟩, _⟩ := h
  unfold nC
  refine ⟨h1, h2, by omega, by omega, h3, ?_⟩
  have : min c.hop (Cr.cn (Cr.lo c.mem) : Int) ≤ (Cr.cn (Cr.lo c.mem) : Int) := Int.min_le_right _ _
  omega
/-- A commit as a value: its entries read as they are, or lie in a block of the call's own. -/
structure Cv (w : World) (v : Value) (c : Cm) : Prop where
  form : ∃ ao cap, v = .agg #[.int .i64 c.rs, .int .i64 c.rr, .int .i64 c.mem, .int .i64 c.hop, .slice ao c.es.length cap] ∧ SlE w (.slice ao c.es.length cap) c.es
structure Cn (w0 w : World) (v : Value) (c : Cm) : Prop where
  form : ∃ ao cap, v = .agg #[.int .i64 c.rs, .int .i64 c.rr, .int .i64 c.mem, .int .i64 c.hop, .slice ao c.es.length cap] ∧ RE w (.slice ao c.es.length cap) c.es ∧ Nw w0 (.slice ao c.es.length cap)
theorem Cv.keep {w w' : World} {v : Value} {c : Cm} (h : Cv w v c) (hm : Mod (fun _ => False) w w') : Cv w' v c := by
  obtain ⟨ao, cap, e, h1⟩ := h.form
  exact ⟨ao, cap, e, h1.keep hm⟩
theorem Cn.keep {w0 w w' : World} {v : Value} {c : Cm} (h : Cn w0 w v c) (hm : Mod (fun _ => False) w w') : Cn w0 w' v c := by
  obtain ⟨ao, cap, e, h1, h2⟩ := h.form
  exact ⟨ao, cap, e, h1.keep hm, h2⟩
theorem Cn.cv {w0 w : World} {v : Value} {c : Cm} (h : Cn w0 w v c) : Cv w v c := by
  obtain ⟨ao, cap, e, h1, h2⟩ := h.form
  exact ⟨ao, cap, e, h1.sl⟩
theorem Cn.early {wa w0 w : World} {v : Value} {c : Cm} (h : Cn w0 w v c) (hm : wa.heap.size ≤ w0.heap.size) : Cn wa w v c := by
  obtain ⟨ao, cap, e, h1, h2⟩ := h.form
  exact ⟨ao, cap, e, h1, fun g hg => Nat.le_trans hm (h2 g hg)⟩
abbrev zC : Value := .agg #[.int .i64 0, .int .i64 0, .int .i64 0, .int .i64 0, .slice none 0 0]
theorem Cn.zero (w0 w : World) : Cn w0 w zC Cm.zero := ⟨none, 0, rfl, RE.nil w, fun g hg => by cases hg⟩
set_option maxRecDepth 100000 in
set_option maxHeartbeats 2000000 in
theorem checked_any (w0 w : World) (v : Value) (c : Cm) (h : Cn w0 w v c) (hmm : I64 c.mem) : Calls Try.prog 31 #[v] w fun e w' => ∃ v', e = .returned (.tuple #[v', .int .i64 (ckC c)]) ∧ Cn w0 w' v' (if okC c = true then c else Cm.zero) ∧ Mod (fun _ => False) w w' := by
  have HV : Hid (Cn w0 w v c) := h
  obtain ⟨rs, rr, mm, hp, ce⟩ := c
  obtain ⟨cao, ccap, rfl, hr, hn⟩ := h.form
  simp only at *
  have HC := fun W hs => cCheck rs rr mm hp cao ccap ce W hs hmm
  have hB1 := (Bk.new w #[.int .i64 rs, .int .i64 rr, .int .i64 mm, .int .i64 hp, .slice cao ce.length ccap] 26).mod ((Mod.refl (fun _ => False) _).alloc (.cells #[.int .i64 0, .int .i64 0, .int .i64 0, .int .i64 0, .slice none 0 0] 26)) (fun h => h)
  have hB2 := Bk.new (w.alloc (.cells #[.int .i64 rs, .int .i64 rr, .int .i64 mm, .int .i64 hp, .slice cao ce.length ccap] 26)) #[.int .i64 0, .int .i64 0, .int .i64 0, .int .i64 0, .slice none 0 0] 26
  have hM := ((Mod.refl (fun _ => False) w).alloc (.cells #[.int .i64 rs, .int .i64 rr, .int .i64 mm, .int .i64 hp, .slice cao ce.length ccap] 26)).alloc (.cells #[.int .i64 0, .int .i64 0, .int .i64 0, .int .i64 0, .slice none 0 0] 26)
  have hs := hr.sl.keep hM
  clear hr hn h
  have hck : ckC ⟨rs, rr, mm, hp, ce⟩ = if okC ⟨rs, rr, mm, hp, ce⟩ = true then 0 else 2 := rfl
  rw [hck] at HC ⊢
  simp only [World.size_alloc] at hB2
  cases hok : okC ⟨rs, rr, mm, hp, ce⟩ with
  | true =>
    rw [hok] at HC
    simp only [if_true] at HC ⊢
    clear hok hck
    go_enter Try.func31, Try.ntmps31
    go_wp2_with (fail)
    refine (HC _ hs).mono ?_
    rintro e w1 ⟨rfl, hm1⟩
    have HH : Hid (Bk w1 w.heap.size 26 #[.int .i64 rs, .int .i64 rr, .int .i64 mm, .int .i64 hp, .slice cao ce.length ccap] ∧ Bk w1 (w.heap.size + 1) 26 #[.int .i64 0, .int .i64 0, .int .i64 0, .int .i64 0, .slice none 0 0] ∧ Mod (fun _ => False) w w1) := ⟨hB1.mod hm1 (fun h => h), hB2.mod hm1 (fun h => h), hM.and hm1⟩
    clear hB1 hB2 hM hs hm1 HC
    go_wp2_with (first | (refine wpList_load_row infoC Try.underlying26 rfl rfl _ rfl w.heap.size rfl HH.out.1 rfl ?_) | (refine wpList_store_row infoC rfl rfl _ _ rfl (w.heap.size + 1) #[.int .i64 rs, .int .i64 rr, .int .i64 mm, .int .i64 hp, .slice cao ce.length ccap] rfl rfl HH.out.2.1 rfl rfl rfl ?_; intro wF hBF hMF))
    have hmF : Mod (fun _ => False) w wF := HH.out.2.2.trans hMF (V := fun _ => False) (fun _ _ h => h) (fun i hi h => by omega)
    exact bodyPost_ret (resT2 infoC Try.underlying26 rfl rfl rfl rfl hBF rfl) rfl ⟨_, rfl, HV.out.keep hmF, hmF⟩
  | false =>
    rw [hok] at HC
    have e2 : (if false = true then (0 : Int) else 2) = 2 := rfl
    have e3 : (if false = true then (⟨rs, rr, mm, hp, ce⟩ : Cm) else Cm.zero) = Cm.zero := rfl
    rw [e2] at HC ⊢
    rw [e3]
    clear hok hck e2 e3
    go_enter Try.func31, Try.ntmps31
    go_wp2_with (fail)
    refine (HC _ hs).mono ?_
    rintro e w1 ⟨rfl, hm1⟩
    have HH : Hid (Bk w1 (w.heap.size + 1) 26 #[.int .i64 0, .int .i64 0, .int .i64 0, .int .i64 0, .slice none 0 0] ∧ Mod (fun _ => False) w w1) := ⟨hB2.mod hm1 (fun h => h), hM.and hm1⟩
    clear hB1 hB2 hM hs hm1 HC
    go_wp2_with (refine wpList_store_row infoC rfl rfl _ _ rfl (w.heap.size + 1) #[.int .i64 0, .int .i64 0, .int .i64 0, .int .i64 0, .slice none 0 0] rfl rfl HH.out.1 rfl rfl rfl ?_; intro wF hBF hMF)
    have hmF : Mod (fun _ => False) w wF := HH.out.2.trans hMF (V := fun _ => False) (fun _ _ h => h) (fun i hi h => by omega)
    exact bodyPost_ret (resT2 infoC Try.underlying26 rfl rfl rfl rfl hBF rfl) rfl ⟨_, rfl, Cn.zero _ _, hmF⟩
set_option maxHeartbeats 1000000 in
theorem receiver_any (rs rr mm hp : Int) (cao : Option Addr) (ccap : Nat) (ce : List Ey) (w : World) (hpos : 0 < (Cr.ls (Cr.lo mm)).length) (hh : 1 ≤ hp) (hhi : hp ≤ 9223372036854775807) :
    Calls Try.prog 42 #[.agg #[.int .i64 rs, .int .i64 rr, .int .i64 mm, .int .i64 hp, .slice cao ce.length ccap]] w fun e w' => e = .returned (.int .i64 (rcv ⟨rs, rr, mm, hp, ce⟩)) ∧ Mod (fun _ => False) w w' := by
  have hM := (Mod.refl (fun _ => False) w).alloc (.cells #[.int .i64 rs, .int .i64 rr, .int .i64 mm, .int .i64 hp, .slice cao ce.length ccap] 26)
  have hBk := Bk.new w #[.int .i64 rs, .int .i64 rr, .int .i64 mm, .int .i64 hp, .slice cao ce.length ccap] 26
  have HL := Cr.List12 mm
  have hl8 := cn_le mm
  rw [← lo_cn] at hl8
  have hr : rcv ⟨rs, rr, mm, hp, ce⟩ = (Cr.ls (Cr.lo mm)).getD (hp.toNat % (Cr.ls (Cr.lo mm)).length) 0 := rfl
  rw [hr]
  clear hr
  generalize Cr.ls (Cr.lo mm) = L at HL hl8 hpos ⊢
  have ht : hp.tmod (L.length : Int) = ((hp.toNat % L.length : Nat) : Int) := by
    rw [Int.tmod_eq_emod_of_nonneg (by omega)]
    obtain ⟨n, rfl⟩ := Int.eq_ofNat_of_zero_le (show 0 ≤ hp by omega)
    simp
  have hlt : hp.toNat % L.length < L.length := Nat.mod_lt _ hpos
  generalize hp.toNat % L.length = q at ht hlt ⊢
  have hqi : (q : Int) < L.length := by omega
  have hq0 : (0 : Int) ≤ q := by omega
  have hl0 : ¬ (L.length : Int) = 0 := by omega
  obtain ⟨x, hx⟩ : ∃ x, L.getD q 0 = x := ⟨_, rfl⟩
  rw [hx]
  have HX : Hid (L.getD q 0 = x) := hx
  clear hx
  go_enter Try.func42, Try.ntmps42
  go_wp2_with (fail)
  refine (HL _).mono ?_
  rintro e w1 ⟨v, rfl, ho, hm1, _⟩
  obtain ⟨ao, cap, rfl, h1, h2, h3, h4⟩ := ho.sl
  obtain ⟨b, off, rfl, hc⟩ := h4 (List.length_pos_iff.1 hpos)
  have hcq := hc q hlt
  have a3 := (hBk.mod hm1 (fun h => h)).cellv (j := 3) (v := .int .i64 hp) rfl
  rw [HX.out] at hcq
  clear hc h4 hBk HL
  go_wp2
  go_ret
  exact ⟨rfl, hM.trans hm1 (V := fun _ => False) (fun _ _ h => h) (fun _ _ h => h)⟩
set_option maxRecDepth 100000 in
theorem round_any (rs rr mm hp : Int) (cao : Option Addr) (ccap : Nat) (ce : List Ey) (w : World) : Calls Try.prog 34 #[.agg #[.int .i64 rs, .int .i64 rr, .int .i64 mm, .int .i64 hp, .slice cao ce.length ccap]] w fun e w' => e = .returned (.int .i64 (rnd ⟨rs, rr, mm, hp, ce⟩)) ∧ Mod (fun _ => False) w w' := by
  have hM := (Mod.refl (fun _ => False) w).alloc (.cells #[.int .i64 rs, .int .i64 rr, .int .i64 mm, .int .i64 hp, .slice cao ce.length ccap] 26)
  have HCt := Cr.Count mm
  have h8 := cn_le mm
  have hr : rnd ⟨rs, rr, mm, hp, ce⟩ = if hp < (Cr.cn (Cr.lo mm) : Int) then 1 else if hp < 2 * (Cr.cn (Cr.lo mm) : Int) then 2 else 3 := rfl
  rw [hr]
  clear hr
  generalize Cr.cn (Cr.lo mm) = n at *
  by_cases h1 : hp < (n : Int)
  · rw [if_pos h1]
    go_enter Try.func34, Try.ntmps34
    go_wp2_with (fail)
    refine (HCt _).mono ?_
    rintro e w1 ⟨rfl, rfl⟩
    go_wp2
    go_ret
    exact ⟨rfl, hM⟩
  · rw [if_neg h1]
    by_cases h2 : hp < 2 * (n : Int)
    · rw [if_pos h2]
      go_enter Try.func34, Try.ntmps34
      go_wp2_with (fail)
      refine (HCt _).mono ?_
      rintro e w1 ⟨rfl, rfl⟩
      go_wp2
      go_ret
      exact ⟨rfl, hM⟩
    · rw [if_neg h2]
      go_enter Try.func34, Try.ntmps34
      go_wp2_with (fail)
      refine (HCt _).mono ?_
      rintro e w1 ⟨rfl, rfl⟩
      go_wp2
      go_ret
      exact ⟨rfl, hM⟩
set_option maxRecDepth 100000 in
set_option maxHeartbeats 2000000 in
theorem Visit_any (w : World) (v : Value) (c : Cm) (node : Int) (h : Cv w v c) (hmm : I64 c.mem) : Calls Try.prog 18 #[v, .int .i64 node] w fun e w' => e = .returned (.int .i64 (vis c node)) ∧ Mod (fun _ => False) w w' := by
  obtain ⟨rs, rr, mm, hp, ce⟩ := c
  obtain ⟨cao, ccap, rfl, hs⟩ := h.form
  simp only at *
  have HC := fun W hs => cCheck rs rr mm hp cao ccap ce W hs hmm
  have HR := round_any rs rr mm hp cao ccap ce
  have hM := (Mod.refl (fun _ => False) w).alloc (.cells #[.int .i64 rs, .int .i64 rr, .int .i64 mm, .int .i64 hp, .slice cao ce.length ccap] 26)
  have hB := Bk.new w #[.int .i64 rs, .int .i64 rr, .int .i64 mm, .int .i64 hp, .slice cao ce.length ccap] 26
  replace hs := hs.keep hM
  have hv : vis ⟨rs, rr, mm, hp, ce⟩ node = if okC ⟨rs, rr, mm, hp, ce⟩ = true ∧ node = rcv ⟨rs, rr, mm, hp, ce⟩ then rnd ⟨rs, rr, mm, hp, ce⟩ else 0 := rfl
  have hck : ckC ⟨rs, rr, mm, hp, ce⟩ = if okC ⟨rs, rr, mm, hp, ce⟩ = true then 0 else 2 := rfl
  rw [hck] at HC
  rw [hv]
  clear hv hck h
  by_cases hok : okC ⟨rs, rr, mm, hp, ce⟩ = true
  · have hh := okC_hop hok
    simp only [nC] at hh
    have HV := fun W => receiver_any rs rr mm hp cao ccap ce W (by rw [lo_cn]; omega) hh.1 (by omega)
    rw [if_pos hok] at HC
    simp only [hok, true_and]
    clear hok hh
    generalize rnd ⟨rs, rr, mm, hp, ce⟩ = R at HR ⊢
    generalize rcv ⟨rs, rr, mm, hp, ce⟩ = r at HV ⊢
    by_cases hn : node = r
    · rw [if_pos hn]
      subst hn
      go_enter Try.func18, Try.ntmps18
      go_wp2_with (fail)
      refine (HC _ hs).mono ?_
      rintro e w1 ⟨rfl, hm1⟩
      replace hM := hM.and hm1
      replace hB := hB.mod hm1 (fun h => h)
      obtain ⟨a0, a1, a2, a3, a4⟩ := (⟨hB.cellv (j := 0) rfl, hB.cellv (j := 1) rfl, hB.cellv (j := 2) rfl, hB.cellv (j := 3) rfl, hB.cellv (j := 4) rfl⟩ : _ ∧ _ ∧ _ ∧ _ ∧ _)
      clear HC hs hm1
      go_wp2_with (fail)
      refine (HV _).mono ?_
      rintro e w2 ⟨rfl, hm2⟩
      clear a0 a1 a2 a3 a4
      replace hM := hM.and hm2
      replace hB := hB.mod hm2 (fun h => h)
      obtain ⟨a0, a1, a2, a3, a4⟩ := (⟨hB.cellv (j := 0) rfl, hB.cellv (j := 1) rfl, hB.cellv (j := 2) rfl, hB.cellv (j := 3) rfl, hB.cellv (j := 4) rfl⟩ : _ ∧ _ ∧ _ ∧ _ ∧ _)
      clear HV hm2
      go_wp2_with (fail)
      refine (HR _).mono ?_
      rintro e w3 ⟨rfl, hm3⟩
      clear a0 a1 a2 a3 a4
      go_wp2
      go_ret
      exact ⟨rfl, hM.and hm3⟩
    · rw [if_neg hn]
      have hnb : (node != r) = true := by simpa using hn
      clear hn
      go_enter Try.func18, Try.ntmps18
      go_wp2_with (fail)
      refine (HC _ hs).mono ?_
      rintro e w1 ⟨rfl, hm1⟩
      replace hM := hM.and hm1
      replace hB := hB.mod hm1 (fun h => h)
      obtain ⟨a0, a1, a2, a3, a4⟩ := (⟨hB.cellv (j := 0) rfl, hB.cellv (j := 1) rfl, hB.cellv (j := 2) rfl, hB.cellv (j := 3) rfl, hB.cellv (j := 4) rfl⟩ : _ ∧ _ ∧ _ ∧ _ ∧ _)
      clear HC hs hm1
      go_wp2_with (fail)
      refine (HV _).mono ?_
      rintro e w2 ⟨rfl, hm2⟩
      clear a0 a1 a2 a3 a4
      go_wp2
      go_ret
      exact ⟨rfl, hM.and hm2⟩
  · rw [if_neg hok] at HC
    rw [if_neg (fun h => hok h.1)]
    clear hok
    go_enter Try.func18, Try.ntmps18
    go_wp2_with (fail)
    refine (HC _ hs).mono ?_
    rintro e w1 ⟨rfl, hm1⟩
    go_wp2
    go_ret
    exact ⟨rfl, hM.and hm1⟩
set_option maxRecDepth 100000 in
set_option maxHeartbeats 4000000 in
theorem Pass_any (w : World) (v : Value) (c : Cm) (h : Cv w v c) (hmm : I64 c.mem) : Calls Try.prog 13 #[v] w fun e w' => ∃ v', e = .returned (.tuple #[v', .int .i64 (pasC c).2]) ∧ Cn w w' v' (pasC c).1 ∧ Mod (fun _ => False) w w' := by
  obtain ⟨rs, rr, mm, hp, ce⟩ := c
  obtain ⟨cao, ccap, rfl, hs⟩ := h.form
  simp only at *
  have HC := fun W hs => cCheck rs rr mm hp cao ccap ce W hs hmm
  have HR := round_any rs rr mm hp cao ccap ce
  have hB1 := (Bk.new w #[.int .i64 rs, .int .i64 rr, .int .i64 mm, .int .i64 hp, .slice cao ce.length ccap] 26).mod ((Mod.refl (fun _ => False) _).alloc (.cells #[.int .i64 0, .int .i64 0, .int .i64 0, .int .i64 0, .slice none 0 0] 26)) (fun h => h)
  have hB2 := Bk.new (w.alloc (.cells #[.int .i64 rs, .int .i64 rr, .int .i64 mm, .int .i64 hp, .slice cao ce.length ccap] 26)) #[.int .i64 0, .int .i64 0, .int .i64 0, .int .i64 0, .slice none 0 0] 26
  have hM := ((Mod.refl (fun _ => False) w).alloc (.cells #[.int .i64 rs, .int .i64 rr, .int .i64 mm, .int .i64 hp, .slice cao ce.length ccap] 26)).alloc (.cells #[.int .i64 0, .int .i64 0, .int .i64 0, .int .i64 0, .slice none 0 0] 26)
  simp only [World.size_alloc] at hB2
  replace hs := hs.keep hM
  have HO := fun W h1 h2 => onward_any rs rr mm hp cao ccap ce (.slice none 0 0) [] W h1 (SlE.nil W) h2 (by simp)
  rw [List.append_nil] at HO
  have hpv : pasC ⟨rs, rr, mm, hp, ce⟩ = if okC ⟨rs, rr, mm, hp, ce⟩ = true ∧ rnd ⟨rs, rr, mm, hp, ce⟩ = 2 then (onw ⟨rs, rr, mm, hp, ce⟩ [], 0) else (Cm.zero, 2) := rfl
  have how : onw ⟨rs, rr, mm, hp, ce⟩ [] = ⟨rs, rr, mm, hp + 1, ce⟩ := by simp [onw]
  have hck : ckC ⟨rs, rr, mm, hp, ce⟩ = if okC ⟨rs, rr, mm, hp, ce⟩ = true then 0 else 2 := rfl
  rw [hck] at HC
  rw [hpv, how]
  clear hpv how hck h
  by_cases hok : okC ⟨rs, rr, mm, hp, ce⟩ = true
  · have hh := okC_hop hok
    simp only [nC] at hh
    rw [if_pos hok] at HC
    simp only [hok, true_and]
    have hc8 : ce.length ≤ 1000 := by omega
    have hhp : 0 ≤ hp ∧ hp ≤ 1000 := by omega
    replace HO := fun W h1 => HO W h1 hc8 hhp
    clear hok hh hc8 hhp
    generalize rnd ⟨rs, rr, mm, hp, ce⟩ = R at HR ⊢
    by_cases hn : R = 2
    · rw [if_pos hn]
      subst hn
      go_enter Try.func13, Try.ntmps13
      go_wp2_with (fail)
      refine (HC _ hs).mono ?_
      rintro e w1 ⟨rfl, hm1⟩
      replace hM := hM.and hm1
      replace hs := hs.keep hm1
      replace hB1 := hB1.mod hm1 (fun h => h)
      replace hB2 := hB2.mod hm1 (fun h => h)
      clear HC hm1
      obtain ⟨a0, a1, a2, a3, a4⟩ := (⟨hB1.cellv (j := 0) rfl, hB1.cellv (j := 1) rfl, hB1.cellv (j := 2) rfl, hB1.cellv (j := 3) rfl, hB1.cellv (j := 4) rfl⟩ : _ ∧ _ ∧ _ ∧ _ ∧ _)
      go_wp2_with (fail)
      refine (HR _).mono ?_
      rintro e w2 ⟨rfl, hm2⟩
      clear a0 a1 a2 a3 a4
      replace hM := hM.and hm2
      replace hs := hs.keep hm2
      replace hB1 := hB1.mod hm2 (fun h => h)
      replace hB2 := hB2.mod hm2 (fun h => h)
      clear HR hm2
      obtain ⟨a0, a1, a2, a3, a4⟩ := (⟨hB1.cellv (j := 0) rfl, hB1.cellv (j := 1) rfl, hB1.cellv (j := 2) rfl, hB1.cellv (j := 3) rfl, hB1.cellv (j := 4) rfl⟩ : _ ∧ _ ∧ _ ∧ _ ∧ _)
      go_wp2_with (fail)
      refine (HO _ hs).mono ?_
      rintro e w3 ⟨ax, cx, rfl, hr, hm3, hn3⟩
      clear a0 a1 a2 a3 a4
      have HH : Hid (Bk w3 (w.heap.size + 1) 26 #[.int .i64 0, .int .i64 0, .int .i64 0, .int .i64 0, .slice none 0 0] ∧ Mod (fun _ => False) w w3 ∧ RE w3 (.slice ax ce.length cx) ce ∧ (∀ g, (Value.slice ax ce.length cx).ownBlock = some g → w.heap.size + 2 ≤ g)) := ⟨hB2.mod hm3 (fun h => h), hM.and hm3, hr, fun g hg => by have := hn3 g hg; have := hB2.lt; omega⟩
      clear hB1 hB2 hM hs hm3 hr hn3 HO
      go_wp2_with (refine wpList_store_row infoC rfl rfl _ _ rfl (w.heap.size + 1) #[.int .i64 rs, .int .i64 rr, .int .i64 mm, .int .i64 (hp + 1), .slice ax ce.length cx] rfl rfl HH.out.1 rfl rfl rfl ?_; intro wF hBF hMF)
      have hmF : Mod (fun _ => False) w wF := HH.out.2.1.trans hMF (V := fun _ => False) (fun _ _ h => h) (fun i hi h => by omega)
      exact bodyPost_ret (resT2 infoC Try.underlying26 rfl rfl rfl rfl hBF rfl) rfl ⟨_, rfl, ⟨ax, cx, rfl, HH.out.2.2.1.mod hMF (fun g hg e => by have := HH.out.2.2.2 g hg; omega), fun g hg => by have := HH.out.2.2.2 g hg; omega⟩, hmF⟩
    · rw [if_neg hn]
      have hnb : (R != 2) = true := by simpa using hn
      clear hn HO
      go_enter Try.func13, Try.ntmps13
      go_wp2_with (fail)
      refine (HC _ hs).mono ?_
      rintro e w1 ⟨rfl, hm1⟩
      replace hM := hM.and hm1
      replace hB1 := hB1.mod hm1 (fun h => h)
      replace hB2 := hB2.mod hm1 (fun h => h)
      clear HC hm1 hs
      obtain ⟨a0, a1, a2, a3, a4⟩ := (⟨hB1.cellv (j := 0) rfl, hB1.cellv (j := 1) rfl, hB1.cellv (j := 2) rfl, hB1.cellv (j := 3) rfl, hB1.cellv (j := 4) rfl⟩ : _ ∧ _ ∧ _ ∧ _ ∧ _)
      go_wp2_with (fail)
      refine (HR _).mono ?_
      rintro e w2 ⟨rfl, hm2⟩
      clear a0 a1 a2 a3 a4
      have HH : Hid (Bk w2 (w.heap.size + 1) 26 #[.int .i64 0, .int .i64 0, .int .i64 0, .int .i64 0, .slice none 0 0] ∧ Mod (fun _ => False) w w2) := ⟨hB2.mod hm2 (fun h => h), hM.and hm2⟩
      clear hB1 hB2 hM hm2 HR
      go_wp2_with (refine wpList_store_row infoC rfl rfl _ _ rfl (w.heap.size + 1) #[.int .i64 0, .int .i64 0, .int .i64 0, .int .i64 0, .slice none 0 0] rfl rfl HH.out.1 rfl rfl rfl ?_; intro wF hBF hMF)
      have hmF : Mod (fun _ => False) w wF := HH.out.2.trans hMF (V := fun _ => False) (fun _ _ h => h) (fun i hi h => by omega)
      exact bodyPost_ret (resT2 infoC Try.underlying26 rfl rfl rfl rfl hBF rfl) rfl ⟨_, rfl, Cn.zero _ _, hmF⟩
  · rw [if_neg hok] at HC
    rw [if_neg (fun h => hok h.1)]
    clear hok HO HR
    go_enter Try.func13, Try.ntmps13
    go_wp2_with (fail)
    refine (HC _ hs).mono ?_
    rintro e w1 ⟨rfl, hm1⟩
    have HH : Hid (Bk w1 (w.heap.size + 1) 26 #[.int .i64 0, .int .i64 0, .int .i64 0, .int .i64 0, .slice none 0 0] ∧ Mod (fun _ => False) w w1) := ⟨hB2.mod hm1 (fun h => h), hM.and hm1⟩
    clear hB1 hB2 hM hm1 HC hs
    go_wp2_with (refine wpList_store_row infoC rfl rfl _ _ rfl (w.heap.size + 1) #[.int .i64 0, .int .i64 0, .int .i64 0, .int .i64 0, .slice none 0 0] rfl rfl HH.out.1 rfl rfl rfl ?_; intro wF hBF hMF)
    have hmF : Mod (fun _ => False) w wF := HH.out.2.trans hMF (V := fun _ => False) (fun _ _ h => h) (fun i hi h => by omega)
    exact bodyPost_ret (resT2 infoC Try.underlying26 rfl rfl rfl rfl hBF rfl) rfl ⟨_, rfl, Cn.zero _ _, hmF⟩
end Go.Proofs.Ytlekmgjjjniomaa
