/- Contracts of a window's Get and Put, of all data. Conditions: numbers of an int; sizes that a slice of bytes has; as many data as a map can have. -/
import Derived.Test.YtampdkbcijdpcaaYb
import Derived.Deep.RegionLaw
import Derived.Deep.RegionHeld3
import Derived.Test.YtampdkbcijdpcaaFrx
namespace Go.Proofs.Ytampdkbcijdpcaa
open Go.RowKit Go.Maps
theorem Bk.other' {w w' : World} {b : Nat} {t : TypeId} {xs : Array Value} (h : Bk w b t xs) (hm : Mod (fun _ => False) w w') : Bk w' b t xs := h.mod hm (fun h => h)
set_option maxRecDepth 100000 in
set_option maxHeartbeats 2000000 in
theorem Get_w {w : World} {p : Nat} {X : Nat → Prop} {J : Int → Option Dt} {a h : Int} {n : Nat} (hw : Wn w p X J a h n) (k : Int) (hk : I64 k) : Calls Try.prog 22 #[.pointer (some ⟨p, 0, none⟩), .int .i64 k] w fun e w' => ∃ v, e = .returned (.tuple #[dv ((J k).getD d0) v, .bool (J k).isSome]) ∧ Own w' v ((J k).getD d0).m.body ∧ Mod (fun _ => False) w w' ∧ (∀ g, v.ownBlock = some g → w.heap.size ≤ g) := by
  have hA := (Mod.refl (fun _ => False) w).alloc (.cells #[.int .i64 0, .int .i64 0, .int .i64 0, .int .i64 0, .int .i64 0, .int .i64 0, .int .i64 0, .int .i64 0, .int .i64 0, .int .i64 0, .int .i64 0, .int .i64 0, .bool false, .int .i64 0, .int .i64 0, .int .i64 0, .int .i64 0, .slice none 0 0] 44)
  have hZ : Hid (Bk _ _ _ _) := Bk.new w #[.int .i64 0, .int .i64 0, .int .i64 0, .int .i64 0, .int .i64 0, .int .i64 0, .int .i64 0, .int .i64 0, .int .i64 0, .int .i64 0, .int .i64 0, .int .i64 0, .bool false, .int .i64 0, .int .i64 0, .int .i64 0, .int .i64 0, .slice none 0 0] 44
  have HW : Hid (Wn _ p X J a h n) := hw.keep hA
  have HH := has_w HW.out.mem k hk
  obtain ⟨B, V, N, h1, h2, _, _, h5⟩ := HW.out.mem.blk
  have HN := isNone_w (h1.cellv (j := 0) rfl)
  have HA : Hid (Mod _ _ _) := hA
  have hsz := hA.size
  have HS : Hid (w.heap.size < (w.alloc (.cells #[.int .i64 0, .int .i64 0, .int .i64 0, .int .i64 0, .int .i64 0, .int .i64 0, .int .i64 0, .int .i64 0, .int .i64 0, .int .i64 0, .int .i64 0, .int .i64 0, .bool false, .int .i64 0, .int .i64 0, .int .i64 0, .int .i64 0, .slice none 0 0] 44)).heap.size) := by unfold Hid; simp
  clear h1 h2 h5 hw hA hsz
  cases hJ : J k with
  | none =>
    rw [hJ] at HH
    simp only [Option.isSome_none] at HH
    simp only [Option.isSome_none, Option.getD_none, d0, dv]
    clear hJ
    go_enter Try.func22, Try.ntmps22
    go_wp2_with (first | (go_at_call 28; refine HN.mono ?_; rintro e w' ⟨rfl, rfl⟩) | (go_at_call 30; refine HH.mono ?_; rintro e w1 ⟨rfl, hm1⟩) | (refine wpList_store_row info18 rfl rfl _ _ rfl w.heap.size #[.int .i64 0, .int .i64 0, .int .i64 0, .int .i64 0, .int .i64 0, .int .i64 0, .int .i64 0, .int .i64 0, .int .i64 0, .int .i64 0, .int .i64 0, .int .i64 0, .bool false, .int .i64 0, .int .i64 0, .int .i64 0, .int .i64 0, .slice none 0 0] rfl rfl (hZ.out.other' hm1) rfl rfl rfl ?_; intro wF hBF hMF))
    exact bodyPost_ret (resT2 info18 Try.underlying44 rfl rfl rfl rfl hBF rfl) rfl ⟨_, rfl, Own.nil _, (HA.out.and hm1).trans hMF (V := fun _ => False) (fun _ _ h => h) (fun i hi h => by omega), by simp [Value.ownBlock]⟩
  | some d =>
    rw [hJ] at HH
    simp only [Option.isSome_some] at HH
    simp only [Option.isSome_some, Option.getD_some]
    have HJ : Hid (J k = some d) := hJ
    clear hJ
    go_enter Try.func22, Try.ntmps22
    go_wp2_with (first | (go_at_call 28; refine HN.mono ?_; rintro e w' ⟨rfl, rfl⟩))
    refine HH.mono ?_
    rintro e w1 ⟨rfl, hm1⟩
    have hW1 := HW.out.keep hm1
    obtain ⟨B, V, N, h1, h2, _, _, h5⟩ := hW1.mem.blk
    have c0 : w1.cell? ⟨p, 0, none⟩ = some (.map (some B)) := h1.cellv (j := 0) rfl
    have hL := h2.look hk
    obtain ⟨ao, cap, hd, hown⟩ := mv_at h5 k
    rw [hd] at hL
    simp only [HJ.out, Option.getD_some] at hL hown
    obtain ⟨-, -, -, hr, hb⟩ := hW1.wp.each k d HJ.out
    have HC := clone_dt d _ w1 (hown.sl hr) hb
    clear h1 h2 h5 hW1 hd hown hr hb HH HN
    go_wp2_with (fail)
    refine HC.mono ?_
    rintro e w2 ⟨v, rfl, ho2, hm2, hg2⟩
    obtain ⟨av, cv, rfl⟩ := ho2.shape
    have hZ2 := (hZ.out.other' hm1).other' hm2
    have hM := (HA.out.and hm1).and hm2
    unfold dv
    have hs1 := hm1.size
    have hs2 := HS.out
    clear HC hL c0 hm1 hm2
    go_wp2_with (refine wpList_store_row info18 rfl rfl _ _ rfl w.heap.size #[.int .i64 d.q, .int .i64 d.r, .int .i64 d.n, .int .i64 d.s, .int .i64 d.t, .int .i64 d.m.kind, .int .i64 d.m.origin, .int .i64 d.m.life, .int .i64 d.m.id, .int .i64 d.m.part, .int .i64 d.m.parts, .int .i64 d.m.groups, .bool d.m.safe, .int .i64 d.m.st, .int .i64 d.m.rs, .int .i64 d.m.rr, .int .i64 d.m.sq, .slice av d.m.body.length cv] rfl rfl hZ2 rfl rfl rfl ?_; intro wF hBF hMF)
    exact bodyPost_ret (resT2 info18 Try.underlying44 rfl rfl rfl rfl hBF rfl) rfl ⟨_, rfl, ho2.mod hMF (fun i hi e => by have := hg2 i hi; omega), hM.trans hMF (V := fun _ => False) (fun _ _ h => h) (fun i hi h => by omega), fun g hg => by have := hg2 g hg; omega⟩
/-- Put. -/
def okP (d : Dt) : Bool := (cr d.q d.r == 0) && decide (1 ≤ d.n) && decide (d.n ≤ 9007199254740991)
def pE (d : Dt) : Int := if okP d then 0 else 2
def pF (J : Int → Option Dt) (d : Dt) : Bool := okP d && !(J d.n).isSome
def pJ (J : Int → Option Dt) (d : Dt) : Int → Option Dt := if pF J d then upd J d.n (some d) else J
def pH (J : Int → Option Dt) (h : Int) (d : Dt) : Int := if pF J d then max h d.n else h
theorem okP_parts {d : Dt} (h : okP d = true) : cr d.q d.r = 0 ∧ 1 ≤ d.n ∧ d.n ≤ 9007199254740991 := by
  simp only [okP, Bool.and_eq_true, beq_iff_eq, decide_eq_true_eq] at h
  omega
theorem okP_not {d : Dt} (h : okP d = false) : ¬ cr d.q d.r = 0 ∨ (cr d.q d.r = 0 ∧ d.n < 1) ∨ (cr d.q d.r = 0 ∧ 1 ≤ d.n ∧ 9007199254740991 < d.n) := by
  by_cases h1 : cr d.q d.r = 0
  · by_cases h2 : d.n < 1
    · exact .inr (.inl ⟨h1, h2⟩)
    · by_cases h3 : 9007199254740991 < d.n
      · exact .inr (.inr ⟨h1, by omega, h3⟩)
      · exfalso
        rw [show okP d = true by simp [okP, h1]; omega] at h
        cases h
  · exact .inl h1
theorem cr_two (q r : Int) : cr q r = 0 ∨ cr q r = 2 := by
  unfold cr
  split
  · exact .inl rfl
  · exact .inr rfl
set_option maxRecDepth 100000 in
set_option maxHeartbeats 2000000 in
theorem wPut_bad {w : World} {p : Nat} {X : Nat → Prop} {J : Int → Option Dt} {a h : Int} {n : Nat} (hw : Wn w p X J a h n) (d : Dt) (ao : Option Addr) (cap : Nat) (ho : okP d = false) : Calls Try.prog 9 #[.pointer (some ⟨p, 0, none⟩), dv d (.slice ao d.m.body.length cap)] w fun e w' => e = .returned (.tuple #[.bool false, .int .i64 2]) ∧ Mod (fun _ => False) w w' := by
  have hA := (Mod.refl (fun _ => False) w).alloc (.cells #[.int .i64 d.q, .int .i64 d.r, .int .i64 d.n, .int .i64 d.s, .int .i64 d.t, .int .i64 d.m.kind, .int .i64 d.m.origin, .int .i64 d.m.life, .int .i64 d.m.id, .int .i64 d.m.part, .int .i64 d.m.parts, .int .i64 d.m.groups, .bool d.m.safe, .int .i64 d.m.st, .int .i64 d.m.rs, .int .i64 d.m.rr, .int .i64 d.m.sq, .slice ao d.m.body.length cap] 44)
  have hD := Bk.new w #[.int .i64 d.q, .int .i64 d.r, .int .i64 d.n, .int .i64 d.s, .int .i64 d.t, .int .i64 d.m.kind, .int .i64 d.m.origin, .int .i64 d.m.life, .int .i64 d.m.id, .int .i64 d.m.part, .int .i64 d.m.parts, .int .i64 d.m.groups, .bool d.m.safe, .int .i64 d.m.st, .int .i64 d.m.rs, .int .i64 d.m.rr, .int .i64 d.m.sq, .slice ao d.m.body.length cap] 44
  have HW : Hid (Wn _ p X J a h n) := hw.keep hA
  obtain ⟨B, V, N, h1, h2, _, _, h5⟩ := HW.out.mem.blk
  have HN := isNone_w (h1.cellv (j := 0) rfl)
  have HC := CheckRing d.q d.r (w.alloc (.cells #[.int .i64 d.q, .int .i64 d.r, .int .i64 d.n, .int .i64 d.s, .int .i64 d.t, .int .i64 d.m.kind, .int .i64 d.m.origin, .int .i64 d.m.life, .int .i64 d.m.id, .int .i64 d.m.part, .int .i64 d.m.parts, .int .i64 d.m.groups, .bool d.m.safe, .int .i64 d.m.st, .int .i64 d.m.rs, .int .i64 d.m.rr, .int .i64 d.m.sq, .slice ao d.m.body.length cap] 44))
  have hcase := okP_not ho
  have h02 := cr_two d.q d.r
  have HD : Hid (Bk _ _ _ _) := hD
  have HA : Hid (Mod _ _ _) := hA
  generalize cr d.q d.r = c at HC hcase h02
  clear h1 h2 h5 hw ho hD hA
  unfold dv
  rcases hcase with hc | ⟨rfl, hn⟩ | ⟨rfl, hn1, hn2⟩
  · obtain rfl : c = 2 := by omega
    clear hc h02
    go_enter Try.func9, Try.ntmps9
    go_wp2_with (first | (go_at_call 28; refine HN.mono ?_; rintro e w' ⟨rfl, rfl⟩) | (go_at_call 29; refine HC.mono ?_; rintro e w1 ⟨rfl, hm1⟩))
    go_ret2
    exact ⟨rfl, HA.out.and hm1⟩
  · clear h02
    go_enter Try.func9, Try.ntmps9
    go_wp2_with (first | (go_at_call 28; refine HN.mono ?_; rintro e w' ⟨rfl, rfl⟩) | (go_at_call 29; refine HC.mono ?_; rintro e w1 ⟨rfl, hm1⟩; have c2 := (HD.out.other' hm1).cellv (j := 2) rfl))
    go_ret2
    exact ⟨rfl, HA.out.and hm1⟩
  · clear h02
    have hn0 : ¬ d.n < 1 := by omega
    clear hn1
    go_enter Try.func9, Try.ntmps9
    go_wp2_with (first | (go_at_call 28; refine HN.mono ?_; rintro e w' ⟨rfl, rfl⟩) | (go_at_call 29; refine HC.mono ?_; rintro e w1 ⟨rfl, hm1⟩; have c2 := (HD.out.other' hm1).cellv (j := 2) rfl))
    go_ret2
    exact ⟨rfl, HA.out.and hm1⟩
/-- Where all are there up to. -/
def aruOf (w : World) (p : Nat) : Nat := match w.cell? ⟨p, 1, none⟩ with | some (.int _ x) => x.toNat | _ => 0
theorem Wm.aruOf {w : World} {p : Nat} {X : Nat → Prop} {J : Int → Option Dt} {a h : Int} {n : Nat} (hw : Wm w p X J a h n) : aruOf w p = a.toNat := by
  obtain ⟨B, V, N, h1, _⟩ := hw.blk
  have c1 : w.cell? ⟨p, 1, none⟩ = some (.int .i64 a) := h1.cellv (j := 1) rfl
  unfold Ytampdkbcijdpcaa.aruOf
  rw [c1]
theorem Own.ne_map {w : World} {v : Value} {l : List Int} {B : Nat} {J : Int → Option Dt} {V : Int → Value} {N : Nat} (h : Own w v l) (hx : Mn w B J V N) : v.ownBlock ≠ some B := fun e => by
  obtain ⟨cur, hc⟩ := h.kind e
  obtain ⟨es, clock, hb⟩ := hx.kind
  rw [hc] at hb
  cases hb
/-- Data laid into the map. -/
theorem Wm.put {w w' : World} {p B N : Nat} {X : Nat → Prop} {J : Int → Option Dt} {V : Int → Value} {a h : Int} {n : Nat} {d : Dt} {v : Value} {k : Int} (h1 : Bk w p 76 #[.map (some B), .int .i64 a, .int .i64 h]) (h2 : Mn w B J V N) (h3 : N ≤ n) (h4 : X B) (h5 : ∀ k d, J k = some d → Own w (V k) d.m.body ∧ ∀ g, (V k).ownBlock = some g → X g) (px : X p) (lt : ∀ i, X i → i < w.heap.size)
    (hv : Own w v d.m.body) (hm : Mod (fun i => i = B) w w') (hx : Mn w' B (upd J k (some d)) (upd V k v) (N + 1)) : Wm w' p (fun i => X i ∨ v.ownBlock = some i) (upd J k (some d)) a h (n + 1) := by
  refine ⟨⟨B, upd V k v, N + 1, h1.mod hm (fun e => h1.ne_map h2 e.symm), hx, by omega, .inl h4, fun i z hz => ?_⟩, .inl px, fun i hi => ?_⟩
  · by_cases e : i = k
    · subst e
      rw [upd_same] at hz ⊢
      cases hz
      exact ⟨hv.mod hm (fun g hg e => hv.ne_map h2 (e ▸ hg)), fun g hg => .inr hg⟩
    · rw [upd_other J _ e] at hz
      rw [upd_other V _ e]
      obtain ⟨a1, a2⟩ := h5 i z hz
      exact ⟨a1.mod hm (fun g hg e => a1.ne_map h2 (e ▸ hg)), fun g hg => .inl (a2 g hg)⟩
  · rcases hi with hi | hi
    · exact Nat.lt_of_lt_of_le (lt i hi) hm.size
    · exact Nat.lt_of_lt_of_le (hv.lt i hi) hm.size
/-- Behind the store into the map. -/
structure P7 (w2 wx : World) (p B : Nat) (X : Nat → Prop) (J : Int → Option Dt) (a h : Int) (n : Nat) (d : Dt) : Prop where
  ex : ∃ v : Value, Wm wx p (fun i => X i ∨ v.ownBlock = some i) (upd J d.n (some d)) a h (n + 1) ∧ Mod (fun i => i = B) w2 wx ∧ ∀ g, v.ownBlock = some g → w2.heap.size ≤ g
theorem step_cl {ops : Array Oper} {o : Oper} {a : Act} {w : World} {K : Act → World → Prop} {Q : Exit → Act → World → Prop} {E : Prop} {ts : Array TypeId} (hgd : o.guard = none) (x : Operand)
    (ho : o.op = .call { callee := .value (.func 31), args := #[x], argTypes := ts }) (v : Value) (hx : a.eval x = v) (R : Value → World → Prop)
    (HB : Calls Try.prog 31 #[v] w fun e w' => ∃ r, e = .returned r ∧ R r w') (h : ∀ r w', R r w' → K (a.put o.dst r) w') :
    if Region.wanted o (yielded ops a.tmps) = true then Oper.wp Try.prog o a w K Q else E := by
  rw [if_pos (by simp [Region.wanted, hgd])]
  refine wp_enter (by rw [exec_call1 a.eval (fun args w => by simp [go_sem]) rfl ho, hx]) HB ?_
  rintro e w' ⟨r, rfl, hr⟩
  exact ⟨_, rfl, h r w' hr⟩
theorem clone_st (d : Dt) (v : Value) (w : World) (hs : Sl w v d.m.body) (hb : d.m.body.length ≤ 140737488355328) : Calls Try.prog 31 #[dv d v] w fun e w' => ∃ r, e = .returned r ∧ ∃ ao cap, r = dv d (.slice ao d.m.body.length cap) ∧ Own w' (.slice ao d.m.body.length cap) d.m.body ∧ Mod (fun _ => False) w w' ∧ (∀ g, (Value.slice ao d.m.body.length cap).ownBlock = some g → w.heap.size ≤ g) := by
  refine (clone_dt d v w hs hb).mono ?_
  rintro e w' ⟨v', rfl, h1, h2, h3⟩
  obtain ⟨ao, cap, rfl⟩ := h1.shape
  exact ⟨_, rfl, ao, cap, rfl, h1, h2, h3⟩
set_option maxRecDepth 100000 in
set_option maxHeartbeats 4000000 in
theorem Put_there {w : World} {p : Nat} {X : Nat → Prop} {J : Int → Option Dt} {a h : Int} {n : Nat} (hw : Wn w p X J a h n) (d : Dt) (ao : Option Addr) (cap : Nat) (ho : okP d = true) (hJ : (J d.n).isSome = true) :
    Calls Try.prog 9 #[.pointer (some ⟨p, 0, none⟩), dv d (.slice ao d.m.body.length cap)] w fun e w' => e = .returned (.tuple #[.bool false, .int .i64 0]) ∧ Mod (fun _ => False) w w' := by
  have hA := (Mod.refl (fun _ => False) w).alloc (.cells #[.int .i64 d.q, .int .i64 d.r, .int .i64 d.n, .int .i64 d.s, .int .i64 d.t, .int .i64 d.m.kind, .int .i64 d.m.origin, .int .i64 d.m.life, .int .i64 d.m.id, .int .i64 d.m.part, .int .i64 d.m.parts, .int .i64 d.m.groups, .bool d.m.safe, .int .i64 d.m.st, .int .i64 d.m.rs, .int .i64 d.m.rr, .int .i64 d.m.sq, .slice ao d.m.body.length cap] 44)
  have hD := Bk.new w #[.int .i64 d.q, .int .i64 d.r, .int .i64 d.n, .int .i64 d.s, .int .i64 d.t, .int .i64 d.m.kind, .int .i64 d.m.origin, .int .i64 d.m.life, .int .i64 d.m.id, .int .i64 d.m.part, .int .i64 d.m.parts, .int .i64 d.m.groups, .bool d.m.safe, .int .i64 d.m.st, .int .i64 d.m.rs, .int .i64 d.m.rr, .int .i64 d.m.sq, .slice ao d.m.body.length cap] 44
  have HW : Hid (Wn _ p X J a h n) := hw.keep hA
  obtain ⟨B, V, N, h1, h2, _, _, h5⟩ := HW.out.mem.blk
  have HN := isNone_w (h1.cellv (j := 0) rfl)
  have HC := CheckRing d.q d.r (w.alloc (.cells #[.int .i64 d.q, .int .i64 d.r, .int .i64 d.n, .int .i64 d.s, .int .i64 d.t, .int .i64 d.m.kind, .int .i64 d.m.origin, .int .i64 d.m.life, .int .i64 d.m.id, .int .i64 d.m.part, .int .i64 d.m.parts, .int .i64 d.m.groups, .bool d.m.safe, .int .i64 d.m.st, .int .i64 d.m.rs, .int .i64 d.m.rr, .int .i64 d.m.sq, .slice ao d.m.body.length cap] 44))
  obtain ⟨o1, o2, o3⟩ := okP_parts ho
  rw [o1] at HC
  have hn0 : ¬ d.n < 1 := by omega
  have hn1 : ¬ 9007199254740991 < d.n := by omega
  have HI : Hid (I64 d.n) := ⟨by omega, by omega⟩
  have HD : Hid (Bk _ _ _ _) := hD
  have HA : Hid (Mod _ _ _) := hA
  clear h1 h2 h5 hw hD hA o1 o2 o3 ho
  unfold dv
  go_enter Try.func9, Try.ntmps9
  go_wp2_with (first | (go_at_call 28; refine HN.mono ?_; rintro e w' ⟨rfl, rfl⟩) | (go_at_call 29; refine HC.mono ?_; rintro e w1 ⟨rfl, hm1⟩; have c2 := (HD.out.other' hm1).cellv (j := 2) rfl))
  have HM1 : Hid (Mod _ _ _) := HA.out.and hm1
  have HW1 : Hid (Wn w1 p X J a h n) := HW.out.keep hm1
  have HH := has_w HW1.out.mem d.n HI.out
  clear hm1 HC HN HD HA HW
  rw [hJ] at HH
  refine HH.mono ?_
  rintro e w2 ⟨rfl, hm2⟩
  go_wp2
  go_ret2
  exact ⟨rfl, HM1.out.and hm2⟩
end Go.Proofs.Ytampdkbcijdpcaa
