/- Contracts of token's told, leastAsked (of no gaps), New and Visit. Conditions: sizes that a slice has. -/
import Derived.Test.YtbjkncfpddhpkaaAa
namespace Go.Proofs.Ytbjkncfpddhpkaa
open Go.RowKit
/-- A slice of ints in a block of its own, or none, that may be written. -/
def Aw (w : World) (v : Value) (l : List Int) : Prop :=
  ∃ ao cap, v = .slice ao l.length cap ∧ l.length ≤ cap ∧ cap ≤ maxLen ∧ (ao = none → cap = 0) ∧
   (∀ a, ao = some a → ∃ g cur, a = ⟨g, 0, none⟩ ∧ w.heap[g]? = some (.cells cur 3 (0, 0)) ∧ cap ≤ cur.size ∧ ∀ j, j < l.length → cur[j]? = some (.int .i64 (l.getD j 0)))
theorem Aw.sl {w : World} {v : Value} {l : List Int} (h : Aw w v l) : Cr.Sl w v l := by
  obtain ⟨ao, cap, rfl, h1, h2, h3, h4⟩ := h
  refine ⟨ao, cap, rfl, h1, h2, h3, fun hl => ?_⟩
  cases ao with
  | none => exact absurd (List.eq_nil_of_length_eq_zero (by have := h3 rfl; omega)) hl
  | some a =>
    obtain ⟨g, cur, rfl, hg, _, hc⟩ := h4 a rfl
    exact ⟨g, 0, rfl, fun j hj => by simp [World.cell?, hg, hc j hj]⟩
theorem Aw.mod {S : Nat → Prop} {w w' : World} {v : Value} {l : List Int} (h : Aw w v l) (hm : Mod S w w') (hv : ∀ g, v.ownBlock = some g → ¬ S g) : Aw w' v l := by
  obtain ⟨ao, cap, rfl, h1, h2, h3, h4⟩ := h
  refine ⟨ao, cap, rfl, h1, h2, h3, fun a ha => ?_⟩
  obtain ⟨g, cur, rfl, hg, r⟩ := h4 a ha
  exact ⟨g, cur, rfl, hm.obj hg (hv g (by rw [ha]; rfl)), r⟩
theorem Aw.lt {w : World} {v : Value} {l : List Int} (h : Aw w v l) : ∀ g, v.ownBlock = some g → g < w.heap.size := by
  obtain ⟨ao, cap, rfl, h1, h2, h3, h4⟩ := h
  intro g hg
  cases ao with
  | none => simp [Value.ownBlock] at hg
  | some a =>
    obtain ⟨g', cur, rfl, hg', _⟩ := h4 a rfl
    simp only [Value.ownBlock, Option.some.injEq] at hg
    subst hg
    exact lt_of_block hg'
theorem Cr.Own.aw {w : World} {v : Value} {l : List Int} (h : Cr.Own w v l) : Aw w v l := by
  rcases h.2 with ⟨rfl, h0⟩ | ⟨g, cap, cur, rfl, hb, hg, hn, hcm, hcs, ht⟩
  · exact ⟨none, 0, by rw [h0], by omega, by simp [maxLen], fun _ => rfl, fun a ha => by cases ha⟩
  · refine ⟨some ⟨g, 0, none⟩, cap, rfl, hn, hcm, (by intro h; cases h), fun a ha => ?_⟩
    cases ha
    refine ⟨g, cur, rfl, hg, by omega, fun j hj => ?_⟩
    have := World.ownsRow.cellAt h j (by omega)
    simp only [World.cell?, hg] at this
    rw [Cr.U_get l j hj] at this
    simpa using this
theorem told_any (v : Value) (l : List Int) (w : World) (h : Aw w v l) : Calls Try.prog 32 #[v] w fun e w' => ∃ v', e = .returned v' ∧ Aw w' v' l ∧ Mod (fun _ => False) w w' ∧ v'.ownBlock = v.ownBlock := by
  obtain ⟨ao, cap, rfl, h1, h2, h3, h4⟩ := h
  have hA : Aw w (.slice ao l.length l.length) l := by
    refine ⟨ao, l.length, rfl, Nat.le_refl _, by omega, fun e => by have := h3 e; omega, fun a ha => ?_⟩
    obtain ⟨g, cur, e, hg, hc, r⟩ := h4 a ha
    exact ⟨g, cur, e, hg, by omega, r⟩
  cases ao with
  | none =>
    obtain rfl := h3 rfl
    obtain rfl : l = [] := List.eq_nil_of_length_eq_zero (by omega)
    clear h4
    go_enter Try.func32, Try.ntmps32
    go_wp2
    go_ret
    exact ⟨_, rfl, hA, Mod.refl _ _, rfl⟩
  | some a =>
    obtain ⟨g, cur, rfl, hg, hc, r⟩ := h4 a rfl
    have k1 : ¬ ((l.length : Int) < 0) := by omega
    have k2 : ¬ ((cap : Int) < l.length) := by omega
    clear h4 h3 r hg hc
    go_enter Try.func32, Try.ntmps32
    go_wp2
    go_ret
    exact ⟨_, rfl, hA, Mod.refl _ _, rfl⟩
set_option maxRecDepth 100000 in
theorem least_nil (rs rr hp sq ar lw st ix : Int) (ao : Option Addr) (cap : Nat) (l : List Int) (w : World) (hs : Cr.Sl w (.slice ao l.length cap) l) (hb : l.length ≤ 17592186044416) :
    Calls Try.prog 22 #[.agg #[.int .i64 rs, .int .i64 rr, .int .i64 hp, .int .i64 sq, .int .i64 ar, .int .i64 lw, .int .i64 st, .int .i64 ix, .slice ao l.length cap], .slice none 0 0] w fun e w' => ∃ ao' cap', e = .returned (.slice ao' l.length cap') ∧ Aw w' (.slice ao' l.length cap') l ∧ Mod (fun _ => False) w w' ∧ (∀ g, (Value.slice ao' l.length cap').ownBlock = some g → w.heap.size ≤ g) := by
  have hM := (Mod.refl (fun _ => False) w).alloc (.cells #[.int .i64 rs, .int .i64 rr, .int .i64 hp, .int .i64 sq, .int .i64 ar, .int .i64 lw, .int .i64 st, .int .i64 ix, .slice ao l.length cap] 26)
  have H1 := Cr.own_any (.slice ao l.length cap) l _ (hs.mod hM fun _ _ h => h) hb
  go_enter Try.func22, Try.ntmps22
  go_wp2_with (fail)
  refine H1.mono ?_
  rintro e w1 ⟨v1, rfl, o1, m1, n1⟩
  go_wp2
  go_loopw [5, 13] (fun s i wr => v1 = s ∧ i = .int .i64 0 ∧ wr = w1) (fun _ _ _ => 0)
  case atStart => exact ⟨rfl, rfl, rfl⟩
  case round =>
    obtain ⟨rfl, rfl, rfl⟩ := hrel
    go_wp2_with (fail)
    refine (told_any v1 l _ o1.aw).mono ?_
    rintro e w2 ⟨v2, rfl, o2, m2, n2⟩
    go_wp2
    go_ret
    obtain ⟨ao2, cap2, rfl, _⟩ := id o2
    refine ⟨ao2, cap2, rfl, o2, (hM.and m1).and m2, fun g hg => ?_⟩
    rw [n2] at hg
    have := n1 g hg
    have := hM.size
    omega
theorem infoT : (Try.prog.info? 26).map (·.size) = some 9 := by kernel_rfl
/-- What Visit makes of Aru and of Low. -/
def vA (a n sq ar lw : Int) : Int := if a < ar ∨ lw = n ∨ lw = 0 then min a sq else ar
def vL (a n sq ar lw : Int) : Int := if a < ar ∨ lw = n ∨ lw = 0 then (if min a sq = sq then 0 else n) else lw
set_option maxRecDepth 100000 in
set_option maxHeartbeats 4000000 in
theorem tVisit_bad (rs rr hp sq ar lw st ix n a : Int) (ao : Option Addr) (cap : Nat) (l : List Int) (gv : Value) (w : World) (hs : Cr.Sl w (.slice ao l.length cap) l) (hi : ∀ x ∈ l, I64 x)
    (hbad : ¬ (okT ⟨rs, rr, hp, sq, ar, lw, st, ix, l⟩ = true ∧ hp ≠ 9007199254740991 ∧ nd n = true ∧ 0 ≤ a)) :
    Calls Try.prog 9 #[.agg #[.int .i64 rs, .int .i64 rr, .int .i64 hp, .int .i64 sq, .int .i64 ar, .int .i64 lw, .int .i64 st, .int .i64 ix, .slice ao l.length cap], .int .i64 n, .int .i64 a, gv] w fun e w' => e = .returned (.agg #[.int .i64 0, .int .i64 0, .int .i64 0, .int .i64 0, .int .i64 0, .int .i64 0, .int .i64 0, .int .i64 0, .slice none 0 0]) ∧ Mod (fun _ => False) w w' := by
  have e1 : (w.alloc (.cells #[.int .i64 rs, .int .i64 rr, .int .i64 hp, .int .i64 sq, .int .i64 ar, .int .i64 lw, .int .i64 st, .int .i64 ix, .slice ao l.length cap] 26)).heap.size = w.heap.size + 1 := by simp
  have hM := ((Mod.refl (fun _ => False) w).alloc (.cells #[.int .i64 rs, .int .i64 rr, .int .i64 hp, .int .i64 sq, .int .i64 ar, .int .i64 lw, .int .i64 st, .int .i64 ix, .slice ao l.length cap] 26)).alloc (.cells #[.int .i64 0, .int .i64 0, .int .i64 0, .int .i64 0, .int .i64 0, .int .i64 0, .int .i64 0, .int .i64 0, .slice none 0 0] 26)
  have hB0 := (Bk.new w #[.int .i64 rs, .int .i64 rr, .int .i64 hp, .int .i64 sq, .int .i64 ar, .int .i64 lw, .int .i64 st, .int .i64 ix, .slice ao l.length cap] 26).mod ((Mod.refl (fun _ => False) _).alloc (.cells #[.int .i64 0, .int .i64 0, .int .i64 0, .int .i64 0, .int .i64 0, .int .i64 0, .int .i64 0, .int .i64 0, .slice none 0 0] 26)) fun h => h
  have hB1 := Bk.new (w.alloc (.cells #[.int .i64 rs, .int .i64 rr, .int .i64 hp, .int .i64 sq, .int .i64 ar, .int .i64 lw, .int .i64 st, .int .i64 ix, .slice ao l.length cap] 26)) #[.int .i64 0, .int .i64 0, .int .i64 0, .int .i64 0, .int .i64 0, .int .i64 0, .int .i64 0, .int .i64 0, .slice none 0 0] 26
  rw [e1] at hB1
  clear e1
  have hC := tCheck rs rr hp sq ar lw st ix ao cap l _ (hs.mod hM fun _ _ h => h) hi
  have hN := pkNode n
  have HB : Hid (ckT ⟨rs, rr, hp, sq, ar, lw, st, ix, l⟩ = 0 → ¬ hp = 9007199254740991 → nd n = true → ¬ a < 0 → False) := fun h1 h2 h3 h4 => hbad ⟨by
    unfold ckT at h1
    split at h1
    · assumption
    · omega, h2, h3, by omega⟩
  clear hbad
  generalize ckT ⟨rs, rr, hp, sq, ar, lw, st, ix, l⟩ = c at hC HB
  generalize nd n = nn at hN HB
  go_enter Try.func9, Try.ntmps9
  go_wp2_with (fail)
  refine hC.mono ?_
  rintro e w1 ⟨rfl, m1⟩
  replace hM := hM.and m1
  replace hB0 := hB0.mod m1 fun h => h
  replace hB1 := hB1.mod m1 fun h => h
  have a2 := hB0.cellv (j := 2) rfl
  by_cases hc0 : c = 0
  case neg =>
    have hcb : (c != 0) = true := by simp [hc0]
    go_wp2_with (refine wpList_store_row infoT rfl rfl _ _ rfl (w.heap.size + 1) #[.int .i64 0, .int .i64 0, .int .i64 0, .int .i64 0, .int .i64 0, .int .i64 0, .int .i64 0, .int .i64 0, .slice none 0 0] rfl rfl hB1 rfl rfl rfl ?_; intro wF hBF hMF)
    exact bodyPost_ret (resT infoT Try.underlying26 rfl rfl rfl hBF rfl) rfl ⟨rfl, hM.trans hMF (V := fun _ => False) (fun _ _ h => h) (fun i hi h => by omega)⟩
  case pos =>
  have hcb : (c != 0) = false := by simp [hc0]
  by_cases hh : hp = 9007199254740991
  case pos =>
    have hhb : (hp == 9007199254740991) = true := by simp [hh]
    go_wp2_with (refine wpList_store_row infoT rfl rfl _ _ rfl (w.heap.size + 1) #[.int .i64 0, .int .i64 0, .int .i64 0, .int .i64 0, .int .i64 0, .int .i64 0, .int .i64 0, .int .i64 0, .slice none 0 0] rfl rfl hB1 rfl rfl rfl ?_; intro wF hBF hMF)
    exact bodyPost_ret (resT infoT Try.underlying26 rfl rfl rfl hBF rfl) rfl ⟨rfl, hM.trans hMF (V := fun _ => False) (fun _ _ h => h) (fun i hi h => by omega)⟩
  case neg =>
  have hhb : (hp == 9007199254740991) = false := by simp [hh]
  go_wp2_with (fail)
  refine (hN _).mono ?_
  rintro e w2 ⟨rfl, rfl⟩
  cases nn
  case false =>
    go_wp2_with (refine wpList_store_row infoT rfl rfl _ _ rfl (w.heap.size + 1) #[.int .i64 0, .int .i64 0, .int .i64 0, .int .i64 0, .int .i64 0, .int .i64 0, .int .i64 0, .int .i64 0, .slice none 0 0] rfl rfl hB1 rfl rfl rfl ?_; intro wF hBF hMF)
    exact bodyPost_ret (resT infoT Try.underlying26 rfl rfl rfl hBF rfl) rfl ⟨rfl, hM.trans hMF (V := fun _ => False) (fun _ _ h => h) (fun i hi h => by omega)⟩
  case true =>
  by_cases ha : a < 0
  case pos =>
    go_wp2_with (refine wpList_store_row infoT rfl rfl _ _ rfl (w.heap.size + 1) #[.int .i64 0, .int .i64 0, .int .i64 0, .int .i64 0, .int .i64 0, .int .i64 0, .int .i64 0, .int .i64 0, .slice none 0 0] rfl rfl hB1 rfl rfl rfl ?_; intro wF hBF hMF)
    exact bodyPost_ret (resT infoT Try.underlying26 rfl rfl rfl hBF rfl) rfl ⟨rfl, hM.trans hMF (V := fun _ => False) (fun _ _ h => h) (fun i hi h => by omega)⟩
  case neg => exact (HB.out hc0 hh rfl (by omega)).elim
set_option maxRecDepth 100000 in
set_option maxHeartbeats 8000000 in
theorem tVisit_ok (rs rr hp sq ar lw st ix n a : Int) (ao : Option Addr) (cap : Nat) (l L : List Int) (gv : Value) (w : World) (hs : Cr.Sl w (.slice ao l.length cap) l) (hi : ∀ x ∈ l, I64 x)
    (hok : okT ⟨rs, rr, hp, sq, ar, lw, st, ix, l⟩ = true) (hhp : hp ≠ 9007199254740991) (hnd : nd n = true) (hna : 0 ≤ a)
    (K : ∀ W hp2 ar2 lw2, Mod (fun _ => False) w W → Calls Try.prog 22 #[.agg #[.int .i64 rs, .int .i64 rr, .int .i64 hp2, .int .i64 sq, .int .i64 ar2, .int .i64 lw2, .int .i64 st, .int .i64 ix, .slice ao l.length cap], gv] W fun e w' => ∃ ao2 cap2, e = .returned (.slice ao2 L.length cap2) ∧ Aw w' (.slice ao2 L.length cap2) L ∧ Mod (fun _ => False) W w' ∧ (∀ g, (Value.slice ao2 L.length cap2).ownBlock = some g → W.heap.size ≤ g)) :
    Calls Try.prog 9 #[.agg #[.int .i64 rs, .int .i64 rr, .int .i64 hp, .int .i64 sq, .int .i64 ar, .int .i64 lw, .int .i64 st, .int .i64 ix, .slice ao l.length cap], .int .i64 n, .int .i64 a, gv] w fun e w' => ∃ ao2 cap2, e = .returned (.agg #[.int .i64 rs, .int .i64 rr, .int .i64 (hp + 1), .int .i64 sq, .int .i64 (vA a n sq ar lw), .int .i64 (vL a n sq ar lw), .int .i64 st, .int .i64 ix, .slice ao2 L.length cap2]) ∧ Aw w' (.slice ao2 L.length cap2) L ∧ Mod (fun _ => False) w w' ∧ (∀ g, (Value.slice ao2 L.length cap2).ownBlock = some g → w.heap.size ≤ g) := by
  have e1 : (w.alloc (.cells #[.int .i64 rs, .int .i64 rr, .int .i64 hp, .int .i64 sq, .int .i64 ar, .int .i64 lw, .int .i64 st, .int .i64 ix, .slice ao l.length cap] 26)).heap.size = w.heap.size + 1 := by simp
  have hM := ((Mod.refl (fun _ => False) w).alloc (.cells #[.int .i64 rs, .int .i64 rr, .int .i64 hp, .int .i64 sq, .int .i64 ar, .int .i64 lw, .int .i64 st, .int .i64 ix, .slice ao l.length cap] 26)).alloc (.cells #[.int .i64 0, .int .i64 0, .int .i64 0, .int .i64 0, .int .i64 0, .int .i64 0, .int .i64 0, .int .i64 0, .slice none 0 0] 26)
  have hB0 := (Bk.new w #[.int .i64 rs, .int .i64 rr, .int .i64 hp, .int .i64 sq, .int .i64 ar, .int .i64 lw, .int .i64 st, .int .i64 ix, .slice ao l.length cap] 26).mod ((Mod.refl (fun _ => False) _).alloc (.cells #[.int .i64 0, .int .i64 0, .int .i64 0, .int .i64 0, .int .i64 0, .int .i64 0, .int .i64 0, .int .i64 0, .slice none 0 0] 26)) fun h => h
  have hB1 := Bk.new (w.alloc (.cells #[.int .i64 rs, .int .i64 rr, .int .i64 hp, .int .i64 sq, .int .i64 ar, .int .i64 lw, .int .i64 st, .int .i64 ix, .slice ao l.length cap] 26)) #[.int .i64 0, .int .i64 0, .int .i64 0, .int .i64 0, .int .i64 0, .int .i64 0, .int .i64 0, .int .i64 0, .slice none 0 0] 26
  rw [e1] at hB1
  clear e1
  have hC := tCheck rs rr hp sq ar lw st ix ao cap l _ (hs.mod hM fun _ _ h => h) hi
  have hN := pkNode n
  rw [hnd] at hN
  have hc0 : ckT ⟨rs, rr, hp, sq, ar, lw, st, ix, l⟩ = 0 := by rw [ckT, if_pos hok]
  rw [hc0] at hC
  have hhr : hp < 9007199254740991 ∧ 0 < hp := by
    rw [okT_eq] at hok
    simp [win] at hok
    omega
  clear hc0 hok
  have hhb : (hp == 9007199254740991) = false := by simp [hhp]
  have hw1 : IntKind.i64.wrap (hp + 1) = hp + 1 := by rw [IntKind.wrap_i64]; omega
  have hw2 : wrap64 (hp + 1) = hp + 1 := by unfold wrap64; omega
  have ha : ¬ a < 0 := by omega
  obtain ⟨m, hm⟩ : ∃ m, m = min a sq := ⟨_, rfl⟩
  have hmin : ∀ W, (Builtin.min_ #[3, 3] 3 #[.int .i64 a, .int .i64 sq]).run Try.prog W = .ok (.int .i64 m) W := fun W => by rw [Lib.run_min_ints, hm]
  have vAp : (a < ar ∨ lw = n ∨ lw = 0) → vA a n sq ar lw = m := fun h => by rw [vA, if_pos h, hm]
  have vLp : (a < ar ∨ lw = n ∨ lw = 0) → vL a n sq ar lw = if m = sq then 0 else n := fun h => by rw [vL, if_pos h, hm]
  have vAn : ¬ (a < ar ∨ lw = n ∨ lw = 0) → vA a n sq ar lw = ar := fun h => by rw [vA, if_neg h]
  have vLn : ¬ (a < ar ∨ lw = n ∨ lw = 0) → vL a n sq ar lw = lw := fun h => by rw [vL, if_neg h]
  generalize vA a n sq ar lw = xA at vAp vAn ⊢
  generalize vL a n sq ar lw = xL at vLp vLn ⊢
  clear hm hhp hnd hna hhr
  go_enter Try.func9, Try.ntmps9
  go_wp2_with (fail)
  refine hC.mono ?_
  rintro e w1 ⟨rfl, m1⟩
  replace hM := hM.and m1
  replace hB0 := hB0.mod m1 fun h => h
  replace hB1 := hB1.mod m1 fun h => h
  have a0 := hB0.cellv (j := 0) rfl
  have a1 := hB0.cellv (j := 1) rfl
  have a2 := hB0.cellv (j := 2) rfl
  have a3 := hB0.cellv (j := 3) rfl
  have a4 := hB0.cellv (j := 4) rfl
  have a5 := hB0.cellv (j := 5) rfl
  have a6 := hB0.cellv (j := 6) rfl
  have a7 := hB0.cellv (j := 7) rfl
  have a8 := hB0.cellv (j := 8) rfl
  have af0 := hB0.frz 0
  have af1 := hB0.frz 1
  have af2 := hB0.frz 2
  have af3 := hB0.frz 3
  have af4 := hB0.frz 4
  have af5 := hB0.frz 5
  have af6 := hB0.frz 6
  have af7 := hB0.frz 7
  have af8 := hB0.frz 8
  go_wp2_with (fail)
  refine (hN _).mono ?_
  rintro e w2 ⟨rfl, rfl⟩
  by_cases h1 : a < ar
  case pos =>
    have q1 := vAp (.inl h1)
    have q2 := vLp (.inl h1)
    clear vAp vLp vAn vLn
    by_cases hms : m = sq
    · rw [if_pos hms] at q2
      have hmb : (m == sq) = true := by simp [hms]
      have HMS : Hid (m = sq) := hms
      clear hms
      subst q1 q2
      have mX := ((((hM.setCell ⟨w.heap.size, 2, none⟩ (.int .i64 (hp + 1)) (.inr (Nat.le_refl _))).setCell ⟨w.heap.size, 4, none⟩ (.int .i64 xA) (.inr (Nat.le_refl _))).setCell ⟨w.heap.size, 5, none⟩ (.int .i64 n) (.inr (Nat.le_refl _))).setCell ⟨w.heap.size, 5, none⟩ (.int .i64 0) (.inr (Nat.le_refl _)))
      have bX := ((((hB0.set 2 (.int .i64 (hp + 1))).set 4 (.int .i64 xA)).set 5 (.int .i64 n)).set 5 (.int .i64 0))
      have cX := ((((hB1.other ⟨w.heap.size, 2, none⟩ (.int .i64 (hp + 1)) (by show w.heap.size ≠ w.heap.size + 1; omega)).other ⟨w.heap.size, 4, none⟩ (.int .i64 xA) (by show w.heap.size ≠ w.heap.size + 1; omega)).other ⟨w.heap.size, 5, none⟩ (.int .i64 n) (by show w.heap.size ≠ w.heap.size + 1; omega)).other ⟨w.heap.size, 5, none⟩ (.int .i64 0) (by show w.heap.size ≠ w.heap.size + 1; omega))
      simp only [List.setIfInBounds_toArray, List.set_cons_succ, List.set_cons_zero] at bX
      go_wp2_with (refine wpList_load_row infoT Try.underlying26 rfl rfl _ rfl w.heap.size rfl bX rfl ?_; simp only [Act.put, List.setIfInBounds_toArray, List.set_cons_succ, List.set_cons_zero])
      refine (K _ _ _ _ mX).mono ?_
      rintro e w3 ⟨ao2, cap2, rfl, o3, m3, n3⟩
      replace mX := mX.and m3
      replace bX := bX.mod m3 fun h => h
      replace cX := cX.mod m3 fun h => h
      have k8 := bX.cellv (j := 8) rfl
      have kf8 := bX.frz 8
      replace bX := bX.set 8 (.slice ao2 L.length cap2)
      simp only [List.setIfInBounds_toArray, List.set_cons_succ, List.set_cons_zero] at bX
      replace cX := cX.other ⟨w.heap.size, 8, none⟩ (.slice ao2 L.length cap2) (by show w.heap.size ≠ w.heap.size + 1; omega)
      have n4 : ∀ g, (Value.slice ao2 L.length cap2).ownBlock = some g → w.heap.size + 2 ≤ g := fun g hg => by have h1 := n3 g hg; have h2 := cX.lt; simp at h1 h2; have h3 := hB1.lt; omega
      replace o3 := o3.mod ((Mod.refl (fun k => k = w.heap.size) w3).setCell ⟨w.heap.size, 8, none⟩ (.slice ao2 L.length cap2) (.inl rfl)) (fun g hg h => by have := n4 g hg; omega)
      replace mX := mX.setCell ⟨w.heap.size, 8, none⟩ (.slice ao2 L.length cap2) (.inr (Nat.le_refl _))
      go_wp2_with (first | (refine wpList_load_row infoT Try.underlying26 rfl rfl _ rfl w.heap.size rfl bX rfl ?_; simp only [Act.put, List.setIfInBounds_toArray, List.set_cons_succ, List.set_cons_zero]) | (refine wpList_store_row infoT rfl rfl _ _ rfl (w.heap.size + 1) #[.int .i64 rs, .int .i64 rr, .int .i64 (hp + 1), .int .i64 sq, .int .i64 xA, .int .i64 0, .int .i64 st, .int .i64 ix, .slice ao2 L.length cap2] rfl rfl cX rfl rfl rfl ?_; intro wF hBF hMF))
      exact bodyPost_ret (resT infoT Try.underlying26 rfl rfl rfl hBF rfl) rfl ⟨ao2, cap2, rfl, o3.mod hMF (fun g hg h => by have := n4 g hg; omega), mX.trans hMF (V := fun _ => False) (fun _ _ h => h) (fun i hi h => by omega), fun g hg => by have := n4 g hg; omega⟩
    · rw [if_neg hms] at q2
      have hmb : (m == sq) = false := by simp [hms]
      subst q1 q2
      have mX := (((hM.setCell ⟨w.heap.size, 2, none⟩ (.int .i64 (hp + 1)) (.inr (Nat.le_refl _))).setCell ⟨w.heap.size, 4, none⟩ (.int .i64 xA) (.inr (Nat.le_refl _))).setCell ⟨w.heap.size, 5, none⟩ (.int .i64 xL) (.inr (Nat.le_refl _)))
      have bX := (((hB0.set 2 (.int .i64 (hp + 1))).set 4 (.int .i64 xA)).set 5 (.int .i64 xL))
      have cX := (((hB1.other ⟨w.heap.size, 2, none⟩ (.int .i64 (hp + 1)) (by show w.heap.size ≠ w.heap.size + 1; omega)).other ⟨w.heap.size, 4, none⟩ (.int .i64 xA) (by show w.heap.size ≠ w.heap.size + 1; omega)).other ⟨w.heap.size, 5, none⟩ (.int .i64 xL) (by show w.heap.size ≠ w.heap.size + 1; omega))
      simp only [List.setIfInBounds_toArray, List.set_cons_succ, List.set_cons_zero] at bX
      go_wp2_with (refine wpList_load_row infoT Try.underlying26 rfl rfl _ rfl w.heap.size rfl bX rfl ?_; simp only [Act.put, List.setIfInBounds_toArray, List.set_cons_succ, List.set_cons_zero])
      refine (K _ _ _ _ mX).mono ?_
      rintro e w3 ⟨ao2, cap2, rfl, o3, m3, n3⟩
      replace mX := mX.and m3
      replace bX := bX.mod m3 fun h => h
      replace cX := cX.mod m3 fun h => h
      have k8 := bX.cellv (j := 8) rfl
      have kf8 := bX.frz 8
      replace bX := bX.set 8 (.slice ao2 L.length cap2)
      simp only [List.setIfInBounds_toArray, List.set_cons_succ, List.set_cons_zero] at bX
      replace cX := cX.other ⟨w.heap.size, 8, none⟩ (.slice ao2 L.length cap2) (by show w.heap.size ≠ w.heap.size + 1; omega)
      have n4 : ∀ g, (Value.slice ao2 L.length cap2).ownBlock = some g → w.heap.size + 2 ≤ g := fun g hg => by have h1 := n3 g hg; have h2 := cX.lt; simp at h1 h2; have h3 := hB1.lt; omega
      replace o3 := o3.mod ((Mod.refl (fun k => k = w.heap.size) w3).setCell ⟨w.heap.size, 8, none⟩ (.slice ao2 L.length cap2) (.inl rfl)) (fun g hg h => by have := n4 g hg; omega)
      replace mX := mX.setCell ⟨w.heap.size, 8, none⟩ (.slice ao2 L.length cap2) (.inr (Nat.le_refl _))
      go_wp2_with (first | (refine wpList_load_row infoT Try.underlying26 rfl rfl _ rfl w.heap.size rfl bX rfl ?_; simp only [Act.put, List.setIfInBounds_toArray, List.set_cons_succ, List.set_cons_zero]) | (refine wpList_store_row infoT rfl rfl _ _ rfl (w.heap.size + 1) #[.int .i64 rs, .int .i64 rr, .int .i64 (hp + 1), .int .i64 sq, .int .i64 xA, .int .i64 xL, .int .i64 st, .int .i64 ix, .slice ao2 L.length cap2] rfl rfl cX rfl rfl rfl ?_; intro wF hBF hMF))
      exact bodyPost_ret (resT infoT Try.underlying26 rfl rfl rfl hBF rfl) rfl ⟨ao2, cap2, rfl, o3.mod hMF (fun g hg h => by have := n4 g hg; omega), mX.trans hMF (V := fun _ => False) (fun _ _ h => h) (fun i hi h => by omega), fun g hg => by have := n4 g hg; omega⟩
  case neg =>
  by_cases h2 : lw = n
  case pos =>
    have q1 := vAp (.inr (.inl h2))
    have q2 := vLp (.inr (.inl h2))
    have hnb : (lw == n) = true := by simp [h2]
    have HLN : Hid (lw = n) := h2
    clear vAp vLp vAn vLn h2
    by_cases hms : m = sq
    · rw [if_pos hms] at q2
      have hmb : (m == sq) = true := by simp [hms]
      have HMS : Hid (m = sq) := hms
      clear hms
      subst q1 q2
      have mX := ((((hM.setCell ⟨w.heap.size, 2, none⟩ (.int .i64 (hp + 1)) (.inr (Nat.le_refl _))).setCell ⟨w.heap.size, 4, none⟩ (.int .i64 xA) (.inr (Nat.le_refl _))).setCell ⟨w.heap.size, 5, none⟩ (.int .i64 n) (.inr (Nat.le_refl _))).setCell ⟨w.heap.size, 5, none⟩ (.int .i64 0) (.inr (Nat.le_refl _)))
      have bX := ((((hB0.set 2 (.int .i64 (hp + 1))).set 4 (.int .i64 xA)).set 5 (.int .i64 n)).set 5 (.int .i64 0))
      have cX := ((((hB1.other ⟨w.heap.size, 2, none⟩ (.int .i64 (hp + 1)) (by show w.heap.size ≠ w.heap.size + 1; omega)).other ⟨w.heap.size, 4, none⟩ (.int .i64 xA) (by show w.heap.size ≠ w.heap.size + 1; omega)).other ⟨w.heap.size, 5, none⟩ (.int .i64 n) (by show w.heap.size ≠ w.heap.size + 1; omega)).other ⟨w.heap.size, 5, none⟩ (.int .i64 0) (by show w.heap.size ≠ w.heap.size + 1; omega))
      simp only [List.setIfInBounds_toArray, List.set_cons_succ, List.set_cons_zero] at bX
      go_wp2_with (refine wpList_load_row infoT Try.underlying26 rfl rfl _ rfl w.heap.size rfl bX rfl ?_; simp only [Act.put, List.setIfInBounds_toArray, List.set_cons_succ, List.set_cons_zero])
      refine (K _ _ _ _ mX).mono ?_
      rintro e w3 ⟨ao2, cap2, rfl, o3, m3, n3⟩
      replace mX := mX.and m3
      replace bX := bX.mod m3 fun h => h
      replace cX := cX.mod m3 fun h => h
      have k8 := bX.cellv (j := 8) rfl
      have kf8 := bX.frz 8
      replace bX := bX.set 8 (.slice ao2 L.length cap2)
      simp only [List.setIfInBounds_toArray, List.set_cons_succ, List.set_cons_zero] at bX
      replace cX := cX.other ⟨w.heap.size, 8, none⟩ (.slice ao2 L.length cap2) (by show w.heap.size ≠ w.heap.size + 1; omega)
      have n4 : ∀ g, (Value.slice ao2 L.length cap2).ownBlock = some g → w.heap.size + 2 ≤ g := fun g hg => by have h1 := n3 g hg; have h2 := cX.lt; simp at h1 h2; have h3 := hB1.lt; omega
      replace o3 := o3.mod ((Mod.refl (fun k => k = w.heap.size) w3).setCell ⟨w.heap.size, 8, none⟩ (.slice ao2 L.length cap2) (.inl rfl)) (fun g hg h => by have := n4 g hg; omega)
      replace mX := mX.setCell ⟨w.heap.size, 8, none⟩ (.slice ao2 L.length cap2) (.inr (Nat.le_refl _))
      go_wp2_with (first | (refine wpList_load_row infoT Try.underlying26 rfl rfl _ rfl w.heap.size rfl bX rfl ?_; simp only [Act.put, List.setIfInBounds_toArray, List.set_cons_succ, List.set_cons_zero]) | (refine wpList_store_row infoT rfl rfl _ _ rfl (w.heap.size + 1) #[.int .i64 rs, .int .i64 rr, .int .i64 (hp + 1), .int .i64 sq, .int .i64 xA, .int .i64 0, .int .i64 st, .int .i64 ix, .slice ao2 L.length cap2] rfl rfl cX rfl rfl rfl ?_; intro wF hBF hMF))
      exact bodyPost_ret (resT infoT Try.underlying26 rfl rfl rfl hBF rfl) rfl ⟨ao2, cap2, rfl, o3.mod hMF (fun g hg h => by have := n4 g hg; omega), mX.trans hMF (V := fun _ => False) (fun _ _ h => h) (fun i hi h => by omega), fun g hg => by have := n4 g hg; omega⟩
    · rw [if_neg hms] at q2
      have hmb : (m == sq) = false := by simp [hms]
      subst q1 q2
      have mX := (((hM.setCell ⟨w.heap.size, 2, none⟩ (.int .i64 (hp + 1)) (.inr (Nat.le_refl _))).setCell ⟨w.heap.size, 4, none⟩ (.int .i64 xA) (.inr (Nat.le_refl _))).setCell ⟨w.heap.size, 5, none⟩ (.int .i64 xL) (.inr (Nat.le_refl _)))
      have bX := (((hB0.set 2 (.int .i64 (hp + 1))).set 4 (.int .i64 xA)).set 5 (.int .i64 xL))
      have cX := (((hB1.other ⟨w.heap.size, 2, none⟩ (.int .i64 (hp + 1)) (by show w.heap.size ≠ w.heap.size + 1; omega)).other ⟨w.heap.size, 4, none⟩ (.int .i64 xA) (by show w.heap.size ≠ w.heap.size + 1; omega)).other ⟨w.heap.size, 5, none⟩ (.int .i64 xL) (by show w.heap.size ≠ w.heap.size + 1; omega))
      simp only [List.setIfInBounds_toArray, List.set_cons_succ, List.set_cons_zero] at bX
      go_wp2_with (refine wpList_load_row infoT Try.underlying26 rfl rfl _ rfl w.heap.size rfl bX rfl ?_; simp only [Act.put, List.setIfInBounds_toArray, List.set_cons_succ, List.set_cons_zero])
      refine (K _ _ _ _ mX).mono ?_
      rintro e w3 ⟨ao2, cap2, rfl, o3, m3, n3⟩
      replace mX := mX.and m3
      replace bX := bX.mod m3 fun h => h
      replace cX := cX.mod m3 fun h => h
      have k8 := bX.cellv (j := 8) rfl
      have kf8 := bX.frz 8
      replace bX := bX.set 8 (.slice ao2 L.length cap2)
      simp only [List.setIfInBounds_toArray, List.set_cons_succ, List.set_cons_zero] at bX
      replace cX := cX.other ⟨w.heap.size, 8, none⟩ (.slice ao2 L.length cap2) (by show w.heap.size ≠ w.heap.size + 1; omega)
      have n4 : ∀ g, (Value.slice ao2 L.length cap2).ownBlock = some g → w.heap.size + 2 ≤ g := fun g hg => by have h1 := n3 g hg; have h2 := cX.lt; simp at h1 h2; have h3 := hB1.lt; omega
      replace o3 := o3.mod ((Mod.refl (fun k => k = w.heap.size) w3).setCell ⟨w.heap.size, 8, none⟩ (.slice ao2 L.length cap2) (.inl rfl)) (fun g hg h => by have := n4 g hg; omega)
      replace mX := mX.setCell ⟨w.heap.size, 8, none⟩ (.slice ao2 L.length cap2) (.inr (Nat.le_refl _))
      go_wp2_with (first | (refine wpList_load_row infoT Try.underlying26 rfl rfl _ rfl w.heap.size rfl bX rfl ?_; simp only [Act.put, List.setIfInBounds_toArray, List.set_cons_succ, List.set_cons_zero]) | (refine wpList_store_row infoT rfl rfl _ _ rfl (w.heap.size + 1) #[.int .i64 rs, .int .i64 rr, .int .i64 (hp + 1), .int .i64 sq, .int .i64 xA, .int .i64 xL, .int .i64 st, .int .i64 ix, .slice ao2 L.length cap2] rfl rfl cX rfl rfl rfl ?_; intro wF hBF hMF))
      exact bodyPost_ret (resT infoT Try.underlying26 rfl rfl rfl hBF rfl) rfl ⟨ao2, cap2, rfl, o3.mod hMF (fun g hg h => by have := n4 g hg; omega), mX.trans hMF (V := fun _ => False) (fun _ _ h => h) (fun i hi h => by omega), fun g hg => by have := n4 g hg; omega⟩
  case neg =>
  have hnb : (lw == n) = false := by simp [h2]
  by_cases h3 : lw = 0
  case pos =>
    have q1 := vAp (.inr (.inr h3))
    have q2 := vLp (.inr (.inr h3))
    have hzb : (lw == 0) = true := by simp [h3]
    have HLN : Hid (lw = 0) := h3
    have HL2 : Hid (¬ lw = n) := h2
    clear vAp vLp vAn vLn h3 h2
    by_cases hms : m = sq
    · rw [if_pos hms] at q2
      have hmb : (m == sq) = true := by simp [hms]
      have HMS : Hid (m = sq) := hms
      clear hms
      subst q1 q2
      have mX := ((((hM.setCell ⟨w.heap.size, 2, none⟩ (.int .i64 (hp + 1)) (.inr (Nat.le_refl _))).setCell ⟨w.heap.size, 4, none⟩ (.int .i64 xA) (.inr (Nat.le_refl _))).setCell ⟨w.heap.size, 5, none⟩ (.int .i64 n) (.inr (Nat.le_refl _))).setCell ⟨w.heap.size, 5, none⟩ (.int .i64 0) (.inr (Nat.le_refl _)))
      have bX := ((((hB0.set 2 (.int .i64 (hp + 1))).set 4 (.int .i64 xA)).set 5 (.int .i64 n)).set 5 (.int .i64 0))
      have cX := ((((hB1.other ⟨w.heap.size, 2, none⟩ (.int .i64 (hp + 1)) (by show w.heap.size ≠ w.heap.size + 1; omega)).other ⟨w.heap.size, 4, none⟩ (.int .i64 xA) (by show w.heap.size ≠ w.heap.size + 1; omega)).other ⟨w.heap.size, 5, none⟩ (.int .i64 n) (by show w.heap.size ≠ w.heap.size + 1; omega)).other ⟨w.heap.size, 5, none⟩ (.int .i64 0) (by show w.heap.size ≠ w.heap.size + 1; omega))
      simp only [List.setIfInBounds_toArray, List.set_cons_succ, List.set_cons_zero] at bX
      go_wp2_with (refine wpList_load_row infoT Try.underlying26 rfl rfl _ rfl w.heap.size rfl bX rfl ?_; simp only [Act.put, List.setIfInBounds_toArray, List.set_cons_succ, List.set_cons_zero])
      refine (K _ _ _ _ mX).mono ?_
      rintro e w3 ⟨ao2, cap2, rfl, o3, m3, n3⟩
      replace mX := mX.and m3
      replace bX := bX.mod m3 fun h => h
      replace cX := cX.mod m3 fun h => h
      have k8 := bX.cellv (j := 8) rfl
      have kf8 := bX.frz 8
      replace bX := bX.set 8 (.slice ao2 L.length cap2)
      simp only [List.setIfInBounds_toArray, List.set_cons_succ, List.set_cons_zero] at bX
      replace cX := cX.other ⟨w.heap.size, 8, none⟩ (.slice ao2 L.length cap2) (by show w.heap.size ≠ w.heap.size + 1; omega)
      have n4 : ∀ g, (Value.slice ao2 L.length cap2).ownBlock = some g → w.heap.size + 2 ≤ g := fun g hg => by have h1 := n3 g hg; have h2 := cX.lt; simp at h1 h2; have h3 := hB1.lt; omega
      replace o3 := o3.mod ((Mod.refl (fun k => k = w.heap.size) w3).setCell ⟨w.heap.size, 8, none⟩ (.slice ao2 L.length cap2) (.inl rfl)) (fun g hg h => by have := n4 g hg; omega)
      replace mX := mX.setCell ⟨w.heap.size, 8, none⟩ (.slice ao2 L.length cap2) (.inr (Nat.le_refl _))
      go_wp2_with (first | (refine wpList_load_row infoT Try.underlying26 rfl rfl _ rfl w.heap.size rfl bX rfl ?_; simp only [Act.put, List.setIfInBounds_toArray, List.set_cons_succ, List.set_cons_zero]) | (refine wpList_store_row infoT rfl rfl _ _ rfl (w.heap.size + 1) #[.int .i64 rs, .int .i64 rr, .int .i64 (hp + 1), .int .i64 sq, .int .i64 xA, .int .i64 0, .int .i64 st, .int .i64 ix, .slice ao2 L.length cap2] rfl rfl cX rfl rfl rfl ?_; intro wF hBF hMF))
      exact bodyPost_ret (resT infoT Try.underlying26 rfl rfl rfl hBF rfl) rfl ⟨ao2, cap2, rfl, o3.mod hMF (fun g hg h => by have := n4 g hg; omega), mX.trans hMF (V := fun _ => False) (fun _ _ h => h) (fun i hi h => by omega), fun g hg => by have := n4 g hg; omega⟩
    · rw [if_neg hms] at q2
      have hmb : (m == sq) = false := by simp [hms]
      subst q1 q2
      have mX := (((hM.setCell ⟨w.heap.size, 2, none⟩ (.int .i64 (hp + 1)) (.inr (Nat.le_refl _))).setCell ⟨w.heap.size, 4, none⟩ (.int .i64 xA) (.inr (Nat.le_refl _))).setCell ⟨w.heap.size, 5, none⟩ (.int .i64 xL) (.inr (Nat.le_refl _)))
      have bX := (((hB0.set 2 (.int .i64 (hp + 1))).set 4 (.int .i64 xA)).set 5 (.int .i64 xL))
      have cX := (((hB1.other ⟨w.heap.size, 2, none⟩ (.int .i64 (hp + 1)) (by show w.heap.size ≠ w.heap.size + 1; omega)).other ⟨w.heap.size, 4, none⟩ (.int .i64 xA) (by show w.heap.size ≠ w.heap.size + 1; omega)).other ⟨w.heap.size, 5, none⟩ (.int .i64 xL) (by show w.heap.size ≠ w.heap.size + 1; omega))
      simp only [List.setIfInBounds_toArray, List.set_cons_succ, List.set_cons_zero] at bX
      go_wp2_with (refine wpList_load_row infoT Try.underlying26 rfl rfl _ rfl w.heap.size rfl bX rfl ?_; simp only [Act.put, List.setIfInBounds_toArray, List.set_cons_succ, List.set_cons_zero])
      refine (K _ _ _ _ mX).mono ?_
      rintro e w3 ⟨ao2, cap2, rfl, o3, m3, n3⟩
      replace mX := mX.and m3
      replace bX := bX.mod m3 fun h => h
      replace cX := cX.mod m3 fun h => h
      have k8 := bX.cellv (j := 8) rfl
      have kf8 := bX.frz 8
      replace bX := bX.set 8 (.slice ao2 L.length cap2)
      simp only [List.setIfInBounds_toArray, List.set_cons_succ, List.set_cons_zero] at bX
      replace cX := cX.other ⟨w.heap.size, 8, none⟩ (.slice ao2 L.length cap2) (by show w.heap.size ≠ w.heap.size + 1; omega)
      have n4 : ∀ g, (Value.slice ao2 L.length cap2).ownBlock = some g → w.heap.size + 2 ≤ g := fun g hg => by have h1 := n3 g hg; have h2 := cX.lt; simp at h1 h2; have h3 := hB1.lt; omega
      replace o3 := o3.mod ((Mod.refl (fun k => k = w.heap.size) w3).setCell ⟨w.heap.size, 8, none⟩ (.slice ao2 L.length cap2) (.inl rfl)) (fun g hg h => by have := n4 g hg; omega)
      replace mX := mX.setCell ⟨w.heap.size, 8, none⟩ (.slice ao2 L.length cap2) (.inr (Nat.le_refl _))
      go_wp2_with (first | (refine wpList_load_row infoT Try.underlying26 rfl rfl _ rfl w.heap.size rfl bX rfl ?_; simp only [Act.put, List.setIfInBounds_toArray, List.set_cons_succ, List.set_cons_zero]) | (refine wpList_store_row infoT rfl rfl _ _ rfl (w.heap.size + 1) #[.int .i64 rs, .int .i64 rr, .int .i64 (hp + 1), .int .i64 sq, .int .i64 xA, .int .i64 xL, .int .i64 st, .int .i64 ix, .slice ao2 L.length cap2] rfl rfl cX rfl rfl rfl ?_; intro wF hBF hMF))
      exact bodyPost_ret (resT infoT Try.underlying26 rfl rfl rfl hBF rfl) rfl ⟨ao2, cap2, rfl, o3.mod hMF (fun g hg h => by have := n4 g hg; omega), mX.trans hMF (V := fun _ => False) (fun _ _ h => h) (fun i hi h => by omega), fun g hg => by have := n4 g hg; omega⟩
  case neg =>
    have hzb : (lw == 0) = false := by simp [h3]
    have q1 := vAn (fun h => by rcases h with h | h | h <;> contradiction)
    have q2 := vLn (fun h => by rcases h with h | h | h <;> contradiction)
    clear vAp vLp vAn vLn
    subst q1 q2
    have mX := (hM.setCell ⟨w.heap.size, 2, none⟩ (.int .i64 (hp + 1)) (.inr (Nat.le_refl _)))
    have bX := (hB0.set 2 (.int .i64 (hp + 1)))
    have cX := (hB1.other ⟨w.heap.size, 2, none⟩ (.int .i64 (hp + 1)) (by show w.heap.size ≠ w.heap.size + 1; omega))
    simp only [List.setIfInBounds_toArray, List.set_cons_succ, List.set_cons_zero] at bX
    go_wp2_with (refine wpList_load_row infoT Try.underlying26 rfl rfl _ rfl w.heap.size rfl bX rfl ?_; simp only [Act.put, List.setIfInBounds_toArray, List.set_cons_succ, List.set_cons_zero])
    refine (K _ _ _ _ mX).mono ?_
    rintro e w3 ⟨ao2, cap2, rfl, o3, m3, n3⟩
    replace mX := mX.and m3
    replace bX := bX.mod m3 fun h => h
    replace cX := cX.mod m3 fun h => h
    have k8 := bX.cellv (j := 8) rfl
    have kf8 := bX.frz 8
    replace bX := bX.set 8 (.slice ao2 L.length cap2)
    simp only [List.setIfInBounds_toArray, List.set_cons_succ, List.set_cons_zero] at bX
    replace cX := cX.other ⟨w.heap.size, 8, none⟩ (.slice ao2 L.length cap2) (by show w.heap.size ≠ w.heap.size + 1; omega)
    have n4 : ∀ g, (Value.slice ao2 L.length cap2).ownBlock = some g → w.heap.size + 2 ≤ g := fun g hg => by have h1 := n3 g hg; have h2 := cX.lt; simp at h1 h2; have h3 := hB1.lt; omega
    replace o3 := o3.mod ((Mod.refl (fun k => k = w.heap.size) w3).setCell ⟨w.heap.size, 8, none⟩ (.slice ao2 L.length cap2) (.inl rfl)) (fun g hg h => by have := n4 g hg; omega)
    replace mX := mX.setCell ⟨w.heap.size, 8, none⟩ (.slice ao2 L.length cap2) (.inr (Nat.le_refl _))
    go_wp2_with (first | (refine wpList_load_row infoT Try.underlying26 rfl rfl _ rfl w.heap.size rfl bX rfl ?_; simp only [Act.put, List.setIfInBounds_toArray, List.set_cons_succ, List.set_cons_zero]) | (refine wpList_store_row infoT rfl rfl _ _ rfl (w.heap.size + 1) #[.int .i64 rs, .int .i64 rr, .int .i64 (hp + 1), .int .i64 sq, .int .i64 xA, .int .i64 xL, .int .i64 st, .int .i64 ix, .slice ao2 L.length cap2] rfl rfl cX rfl rfl rfl ?_; intro wF hBF hMF))
    exact bodyPost_ret (resT infoT Try.underlying26 rfl rfl rfl hBF rfl) rfl ⟨ao2, cap2, rfl, o3.mod hMF (fun g hg h => by have := n4 g hg; omega), mX.trans hMF (V := fun _ => False) (fun _ _ h => h) (fun i hi h => by omega), fun g hg => by have := n4 g hg; omega⟩
end Go.Proofs.Ytbjkncfpddhpkaa
