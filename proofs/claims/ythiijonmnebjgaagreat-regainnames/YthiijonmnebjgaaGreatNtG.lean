/- RegainSends: what is sent again is the document's. Of all data, 60 at most, and numbers. No conditions. -/
import Derived.Test.YthiijonmnebjgaaGreatNqE
import Derived.Deep.QuietTactic
import Derived.BigQuiet
import Derived.Test.YthiijonmnebjgaaGreatWi
import Derived.Test.YthiijonmnebjgaaGreatPn
import Derived.Deep.AppendSrc
import Derived.Deep.DeepCutAuto
import Derived.Deep.Light
import Derived.Test.YthiijonmnebjgaaGreatNqC
import Derived.Test.YthiijonmnebjgaaGreatCl
import Derived.Test.YthiijonmnebjgaaGreatFrx
import Derived.Test.YthiijonmnebjgaaGreatCi
import Derived.Test.YthiijonmnebjgaaGreatNqA
import Derived.Test.YthiijonmnebjgaaGreatRows
import Derived.ProofKit
import Derived.OpenShut
import Derived.Deep.Slices
import Derived.Deep.Strs
import Derived.SizedLaws
import Derived.Lib.SmallJoins
import Derived.Test.YthiijonmnebjgaaGreatRo
import Derived.Test.YthiijonmnebjgaaGreatRw
import Derived.Test.YthiijonmnebjgaaGreatRsd
import Derived.Test.YthiijonmnebjgaaGreatRol
namespace Go.Proofs.YthiijonmnebjgaaGreat
open Go.RowKit Go.Maps
set_option maxRecDepth 100000 in
set_option maxHeartbeats 4000000 in
theorem dAru {w : World} {p : Nat} {X : Nat → Prop} {L : List Dt} {top a h : Int} (hd : Dwn w p X L top) (hl : L.length ≤ 100000) (hp : Wp (jl L) a h) : Calls Tryz.prog 20 #[.pointer (some ⟨p, 0, none⟩)] w fun e w' => e = .returned (.int .i64 a) ∧ Mod (fun _ => False) w w' := by
  have HW : Hid (Dwn w p X L top) := hd
  obtain ⟨ha0, hall, hno⟩ := hp.aru
  have hah := hp.a_le
  have hhm := hp.high.2.1
  have HA : Hid (0 ≤ a ∧ a ≤ 9007199254740991) := ⟨by omega, by omega⟩
  have HALL : Hid (∀ k, 1 ≤ k → k ≤ a → (jl L k).isSome = true) := hall
  have HNO : Hid (jl L (a + 1) = none) := hno
  clear hd hp hah hhm ha0 hall hno
  go_enter Tryz.func20, Tryz.ntmps20
  go_wp2_with (fail)
  go_loopw [3] (fun i wr => ∃ (t : Nat), i = .int .i64 (t : Int) ∧ (t : Int) ≤ a ∧ Mod (fun _ => False) w wr) (fun i _ => a.toNat + 1 - (intOf i).toNat)
  case atStart => exact ⟨0, rfl, by have := HA.out; omega, Mod.refl _ _⟩
  case round =>
    obtain ⟨t, rfl, ht, hMr⟩ := hrel
    have htb : (t : Int) + 1 ≤ 9007199254740992 := by have := HA.out; omega
    have HG := dGet (HW.out.keep hMr) (by omega) ((t : Int) + 1)
    by_cases hta : (t : Int) + 1 ≤ a
    · have HJ : Hid ((jl L ((t : Int) + 1)).isSome = true) := HALL.out _ (by omega) hta
      go_wp2_with (fail)
      refine HG.mono ?_
      rintro e w2 ⟨v2, rfl, ho2, hm2, -⟩
      rw [HJ.out]
      obtain ⟨a2, k2, rfl⟩ := ho2.shape
      generalize (jl L ((t : Int) + 1)).getD d0 = dd at ho2 ⊢
      unfold dv
      have HM2 : Hid (Mod (fun _ => False) w w2) := hMr.and hm2
      clear ho2 hm2 HG
      go_wp2_with (refine wpList_store_row info18 rfl rfl _ _ rfl w2.heap.size #[.int .i64 dd.q, .int .i64 dd.r, .int .i64 dd.n, .int .i64 dd.s, .int .i64 dd.t, .int .i64 dd.m.kind, .int .i64 dd.m.origin, .int .i64 dd.m.life, .int .i64 dd.m.id, .int .i64 dd.m.part, .int .i64 dd.m.parts, .int .i64 dd.m.groups, .bool dd.m.safe, .int .i64 dd.m.st, .int .i64 dd.m.rs, .int .i64 dd.m.rr, .int .i64 dd.m.sq, .slice a2 dd.m.body.length k2] rfl rfl (Bk.new w2 _ _) rfl rfl rfl ?_; intro wF hBF hMF)
      have HMF : Hid (Mod (fun _ => False) w wF) := (HM2.out.alloc _).trans hMF (fun _ _ h => h) (fun i hi e => by have := HM2.out.size; omega)
      clear hBF hMF
      go_roundw
      case rel => exact ⟨t + 1, by go_num, by omega, HMF.out⟩
      case measure => simp [intOf]; omega
    · have HE : Hid ((t : Int) = a) := by show _ = _; omega
      have HJ : Hid ((jl L ((t : Int) + 1)).isSome = false) := by show _ = _; rw [HE.out, HNO.out]; rfl
      go_wp2_with (fail)
      refine HG.mono ?_
      rintro e w2 ⟨v2, rfl, ho2, hm2, -⟩
      rw [HJ.out]
      obtain ⟨a2, k2, rfl⟩ := ho2.shape
      generalize (jl L ((t : Int) + 1)).getD d0 = dd at ho2 ⊢
      unfold dv
      have HM2 : Hid (Mod (fun _ => False) w w2) := hMr.and hm2
      clear ho2 hm2 HG
      go_wp2_with (refine wpList_store_row info18 rfl rfl _ _ rfl w2.heap.size #[.int .i64 dd.q, .int .i64 dd.r, .int .i64 dd.n, .int .i64 dd.s, .int .i64 dd.t, .int .i64 dd.m.kind, .int .i64 dd.m.origin, .int .i64 dd.m.life, .int .i64 dd.m.id, .int .i64 dd.m.part, .int .i64 dd.m.parts, .int .i64 dd.m.groups, .bool dd.m.safe, .int .i64 dd.m.st, .int .i64 dd.m.rs, .int .i64 dd.m.rr, .int .i64 dd.m.sq, .slice a2 dd.m.body.length k2] rfl rfl (Bk.new w2 _ _) rfl rfl rfl ?_; intro wF hBF hMF)
      go_ret
      exact ⟨by rw [← HE.out]; rfl, (HM2.out.alloc _).trans hMF (fun _ _ h => h) (fun i hi e => by have := HM2.out.size; omega)⟩
end Go.Proofs.YthiijonmnebjgaaGreat
namespace Go.Proofs.YthiijonmnebjgaaGreat
open Go.RowKit Go.Maps
/-- Of each number one. -/
def Dis (L : List Dt) : Prop := ∀ (i j : Nat) (a b : Dt), L[i]? = some a → L[j]? = some b → a.n = b.n → i = j
theorem Dis.nil : Dis [] := fun i j a b h => by simp at h
theorem Dis.put {L : List Dt} {d : Dt} (h : Dis L) (hd : jl L d.n = none) : Dis (L ++ [d]) := by
  have hno : ∀ (t : Nat) (z : Dt), L[t]? = some z → z.n ≠ d.n := fun t z hz e => by
    have := List.find?_eq_none.1 hd z (List.mem_of_getElem? hz)
    simp [e] at this
  intro i j a b hi hj e
  rw [List.getElem?_append] at hi hj
  split at hi <;> split at hj
  · exact h i j a b hi hj e
  · rename_i h1 h2
    have hb : b = d := by
      cases hq : j - L.length with
      | zero => rw [hq] at hj; simpa using hj.symm
      | succ n => rw [hq] at hj; simp at hj
    subst hb
    exact absurd e (hno i a hi)
  · rename_i h1 h2
    have hb : a = d := by
      cases hq : i - L.length with
      | zero => rw [hq] at hi; simpa using hi.symm
      | succ n => rw [hq] at hi; simp at hi
    subst hb
    exact absurd e.symm (hno j b hj)
  · have h1 : i - L.length < 1 := by
      rcases Nat.lt_or_ge (i - L.length) 1 with q | q
      · exact q
      · rw [List.getElem?_eq_none (by simpa using q)] at hi; cases hi
    have h2 : j - L.length < 1 := by
      rcases Nat.lt_or_ge (j - L.length) 1 with q | q
      · exact q
      · rw [List.getElem?_eq_none (by simpa using q)] at hj; cases hj
    omega
theorem Dis.pL {L : List Dt} {d : Dt} (h : Dis L) : Dis (pL L d) := by
  unfold YthiijonmnebjgaaGreat.pL
  split
  · rename_i hp
    refine h.put ?_
    simp [pF] at hp
    exact hp.2
  · exact h
theorem Dis.jl {L : List Dt} (h : Dis L) {t : Nat} {d : Dt} (ht : L[t]? = some d) : jl L d.n = some d :=
  jl_at (i := t) (fun t' z h' hz e => by have := h t' t z d hz ht e; omega) ht rfl
/-- How many are above. -/
def ab (L : List Dt) (x : Int) : Nat := (L.filter (fun d => decide (x < d.n))).length
theorem ab_le (L : List Dt) (x : Int) : ab L x ≤ L.length := List.length_filter_le _ _
theorem ab_lt : ∀ {L : List Dt} {x : Int} {d : Dt}, d ∈ L → x < d.n → ab L d.n < ab L x
  | [], _, _, h, _ => by cases h
  | a :: r, x, d, h, hx => by
    have mono : ∀ (r : List Dt) (x y : Int), x ≤ y → ab r y ≤ ab r x := fun r x y hxy => by
      unfold ab
      induction r with
      | nil => simp
      | cons b r ih =>
        rw [List.filter_cons, List.filter_cons]
        by_cases h1 : y < b.n
        · rw [if_pos (by simpa using h1), if_pos (by simp; omega)]
          simp only [List.length_cons]
          omega
        · rw [if_neg (by simpa using h1)]
          split
          · simp only [List.length_cons]; omega
          · exact ih
    unfold ab
    rw [List.filter_cons, List.filter_cons]
    rcases List.mem_cons.1 h with rfl | h
    · rw [if_neg (by simp), if_pos (by simpa using hx)]
      have := mono r x d.n (by omega)
      unfold ab at this
      simp only [List.length_cons]
      omega
    · have := ab_lt h hx
      unfold ab at this
      by_cases h1 : d.n < a.n
      · rw [if_pos (by simpa using h1), if_pos (by simp; omega)]
        simp only [List.length_cons]
        omega
      · rw [if_neg (by simpa using h1)]
        split
        · simp only [List.length_cons]; omega
        · exact this
/-- The least above, of the first i. -/
def Best (ds : List (Dt × Value)) (last : Int) (i : Nat) (at_ : Int) : Prop :=
  (at_ = -1 ∧ ∀ t z, t < i → ds[t]? = some z → ¬ last < z.1.n) ∨ ∃ (t : Nat) (x : Dt × Value), t < i ∧ at_ = (t : Int) ∧ ds[t]? = some x ∧ last < x.1.n ∧ ∀ t' z, t' < i → ds[t']? = some z → last < z.1.n → x.1.n ≤ z.1.n
theorem Best.keep {ds : List (Dt × Value)} {last : Int} {i : Nat} {at_ : Int} (h : Best ds last i at_) {x : Dt × Value} (hx : ds[i]? = some x) (hn : last < x.1.n → ∃ (t : Nat) (y : Dt × Value), at_ = (t : Int) ∧ ds[t]? = some y ∧ y.1.n ≤ x.1.n) : Best ds last (i + 1) at_ := by
  rcases h with ⟨rfl, h⟩ | ⟨t, y, ht, rfl, hy, hl, hm⟩
  · refine .inl ⟨rfl, fun t z ht hz hl => ?_⟩
    rcases Nat.lt_or_ge t i with q | q
    · exact h t z q hz hl
    · obtain rfl : t = i := by omega
      rw [hx] at hz
      cases hz
      obtain ⟨t', _, e, _⟩ := hn hl
      omega
  · refine .inr ⟨t, y, by omega, rfl, hy, hl, fun t' z ht' hz hl' => ?_⟩
    rcases Nat.lt_or_ge t' i with q | q
    · exact hm t' z q hz hl'
    · obtain rfl : t' = i := by omega
      rw [hx] at hz
      cases hz
      obtain ⟨t2, y2, e, hy2, hle⟩ := hn hl'
      obtain rfl : t = t2 := by omega
      rw [hy] at hy2
      cases hy2
      exact hle
theorem Best.take {ds : List (Dt × Value)} {last : Int} {i : Nat} {at_ : Int} (h : Best ds last i at_) {x : Dt × Value} (hx : ds[i]? = some x) (hl : last < x.1.n) (hn : ∀ (t : Nat) (y : Dt × Value), at_ = (t : Int) → ds[t]? = some y → x.1.n < y.1.n) : Best ds last (i + 1) (i : Int) := by
  refine .inr ⟨i, x, by omega, rfl, hx, hl, fun t' z ht' hz hl' => ?_⟩
  rcases Nat.lt_or_ge t' i with q | q
  · rcases h with ⟨rfl, h⟩ | ⟨t, y, ht, rfl, hy, hl2, hm⟩
    · exact absurd hl' (h t' z q hz)
    · have := hm t' z q hz hl'
      have := hn t y rfl hy
      omega
  · obtain rfl : t' = i := by omega
    rw [hx] at hz
    cases hz
    omega
/-- Told so far: up to last. -/
structure Up (J : Int → Option Dt) (s last : Int) (zs : List Int) : Prop where
  up : zs.Pairwise (· < ·)
  mem : ∀ x, x ∈ zs ↔ (s < x ∧ x ≤ last ∧ (J x).isSome = true)
  le : s ≤ last
theorem jl_mem {L : List Dt} {x : Int} (h : (jl L x).isSome = true) : ∃ (t : Nat) (d : Dt), L[t]? = some d ∧ d.n = x := by
  obtain ⟨d, hd⟩ := Option.isSome_iff_exists.1 h
  have hm := List.mem_of_find?_eq_some hd
  have hp := List.find?_some hd
  obtain ⟨t, ht⟩ := List.getElem?_of_mem hm
  exact ⟨t, d, ht, by simpa using hp⟩
theorem Up.step {L : List Dt} {s last : Int} {zs : List Int} (h : Up (jl L) s last zs) {t : Nat} {d : Dt} (ht : L[t]? = some d) (hdj : jl L d.n = some d) (hl : last < d.n) (hm : ∀ (t' : Nat) (z : Dt), L[t']? = some z → last < z.n → d.n ≤ z.n) : Up (jl L) s d.n (zs ++ [d.n]) := by
  have _ := ht
  refine ⟨List.pairwise_append.2 ⟨h.up, by simp, fun a ha b hb => ?_⟩, fun x => ?_, by have := h.le; omega⟩
  · have := (h.mem a).1 ha
    simp at hb
    omega
  · rw [List.mem_append, h.mem x]
    simp only [List.mem_singleton]
    constructor
    · rintro (⟨q1, q2, q3⟩ | rfl)
      · exact ⟨q1, by omega, q3⟩
      · exact ⟨by have := h.le; omega, Int.le_refl _, by rw [hdj]; rfl⟩
    · rintro ⟨q1, q2, q3⟩
      rcases Int.lt_or_le last x with q | q
      · obtain ⟨t', z, hz, rfl⟩ := jl_mem q3
        have := hm t' z hz q
        exact .inr (by omega)
      · exact .inl ⟨q1, q, q3⟩
theorem Up.done {L : List Dt} {s last : Int} {zs : List Int} (h : Up (jl L) s last zs) (hm : ∀ (t' : Nat) (z : Dt), L[t']? = some z → ¬ last < z.n) : Ks (jl L) s zs := ⟨h.up, fun x => by
  rw [h.mem x]
  constructor
  · rintro ⟨q1, _, q3⟩
    exact ⟨q1, q3⟩
  · rintro ⟨q1, q3⟩
    obtain ⟨t', z, hz, rfl⟩ := jl_mem q3
    have := hm t' z hz
    exact ⟨q1, by omega, q3⟩⟩
end Go.Proofs.YthiijonmnebjgaaGreat
namespace Go.Proofs.YthiijonmnebjgaaGreat
open Go.RowKit Go.Maps
set_option maxRecDepth 100000 in
set_option maxHeartbeats 8000000 in
theorem dAbove {w : World} {p : Nat} {X : Nat → Prop} {L : List Dt} {top : Int} (hd : Dwn w p X L top) (hl : L.length ≤ 100000) (hdis : Dis L) (s : Int) : Calls Tryz.prog 34 #[.pointer (some ⟨p, 0, none⟩), .int .i64 s] w fun e w' => ∃ v os zs, e = .returned v ∧ Rd18 w' w.heap.size v os ∧ Ks (jl L) s zs ∧ os.map (·.1) = zs.map (fun k => (jl L k).getD d0) ∧ Mod (fun _ => False) w w' := by
  obtain ⟨v, ds, h1, h2, h3, h4, h5⟩ := hd.ex
  have hdl : ds.length ≤ 100000 := by have := congrArg List.length h3; simp at this; omega
  have HB : Hid (Bk w p 81 #[v, .int .i64 top]) := h1
  have HR : Hid (RG w 45 18 v ds.length (fd ds)) := h2
  have HDS : Hid (ds.map (·.1) = L) := h3
  have HE : Hid (∀ x ∈ ds, Own w x.2 x.1.m.body ∧ (∀ g, x.2.ownBlock = some g → X g) ∧ (∀ c ∈ x.1.m.body, 0 ≤ c ∧ c ≤ 255) ∧ x.1.m.body.length ≤ 140737488355328) := h5
  have HDIS : Hid (Dis L) := hdis
  have HGET : Hid (∀ (t : Nat) (x : Dt × Value), ds[t]? = some x → L[t]? = some x.1) := fun t x hx => by rw [← h3, List.getElem?_map, hx]; rfl
  have HGET2 : Hid (∀ (t : Nat) (d : Dt), L[t]? = some d → ∃ u, ds[t]? = some (d, u)) := fun t d hx => by
    rw [← h3, List.getElem?_map] at hx
    obtain ⟨⟨d', u⟩, hy, rfl⟩ := Option.map_eq_some_iff.1 hx
    exact ⟨u, hy⟩
  obtain ⟨av, cv, rfl⟩ := h2.shape
  clear h1 h2 h3 h4 h5 hd hdis
  have HCELL : Hid (∀ wx, Mod (fun _ => False) w wx → wx.cell? ⟨p, 0, none⟩ = some (.slice av ds.length cv)) := fun wx hm => (HB.out.mod hm (fun h => h)).cellv (j := 0) rfl
  have HROW : Hid (∃ gb of, (0 < ds.length → av = some ⟨gb, of, none⟩) ∧ ∀ wx, Mod (fun _ => False) w wx → ∀ (t : Nat) (x : Dt × Value), ds[t]? = some x → wx.rangeAt gb (of + t * 18) (dcl x.1 x.2)) := by
    by_cases h0 : 0 < ds.length
    · obtain ⟨gb, of, cp, e, hrg⟩ := HR.out.range h0
      cases e
      refine ⟨gb, of, fun _ => rfl, fun wx hm t x hx j c hj => ?_⟩
      have := hm.cell (hrg (t * 18 + j) c (fd_get ds t x hx j c hj)) (fun h => h)
      rwa [← Nat.add_assoc] at this
    · exact ⟨0, 0, fun h => absurd h h0, fun wx hm t x hx => by have := (List.getElem?_eq_some_iff.1 hx).1; omega⟩
  obtain ⟨gb, of, HAV, HRG0⟩ := HROW.out
  have HRG : Hid (∀ wx, Mod (fun _ => False) w wx → ∀ (t : Nat) (x : Dt × Value), ds[t]? = some x → wx.rangeAt gb (of + t * 18) (dcl x.1 x.2)) := HRG0
  have HAVH : Hid (0 < ds.length → av = some ⟨gb, of, none⟩) := HAV
  clear HRG0 HAV HROW HR HB
  go_enter Tryz.func34, Tryz.ntmps34
  go_wp2_with (fail)
  go_loopw [5, 6] (fun o la wr => ∃ (last : Int) (os : List (Dt × Value)) (zs : List Int), la = .int .i64 last ∧ Rd18 wr w.heap.size o os ∧ Hid (os.map (·.1) = zs.map (fun k => (jl L k).getD d0)) ∧ Hid (Up (jl L) s last zs) ∧ Hid (zs.length + ab L last ≤ ds.length) ∧ Mod (fun _ => False) w wr) (fun _ la _ => ab L (intOf la))
  case atStart => exact ⟨s, [], [], rfl, Rd18.nil _ _, by show _ = _; rfl, ⟨List.Pairwise.nil, fun x => by simp; intros; omega, Int.le_refl _⟩, by show _ ≤ _; have := ab_le L s; have := congrArg List.length HDS.out; simp at this ⊢; omega, Mod.refl _ _⟩
  case round =>
    obtain ⟨last, os, zs, rfl, hRd, hmap, hup, hcnt, hMr⟩ := hrel
    obtain ⟨ao, co, rfl⟩ := hRd.row.shape
    obtain ⟨wk, ewk⟩ : ∃ wk, wk = wr := ⟨_, rfl⟩
    rw [← ewk] at hRd hMr ⊢
    have HWK : Hid (wk = wr) := ewk
    clear ewk
    have HRd : Hid (Rd18 wk w.heap.size (.slice ao os.length co) os) := hRd
    have HMk : Hid (Mod (fun _ => False) w wk) := hMr
    clear hRd hMr
    go_wp2_with (fail)
    go_loopw [7, 8] (fun at_ i wr => ∃ (j : Nat) (tt : Int) (q : Nat), i = .int .i64 (j : Int) ∧ at_ = .int .i64 tt ∧ j ≤ ds.length ∧ Hid (Best ds last j tt) ∧ wr = wk.drewN q) (fun _ i _ => ds.length - (intOf i).toNat)
    case atStart => exact ⟨0, -1, 0, rfl, rfl, Nat.zero_le _, .inl ⟨rfl, fun t z ht => by omega⟩, rfl⟩
    case round =>
      obtain ⟨j, tt, q, rfl, rfl, hj, hbest, rfl⟩ := hrel
      have c0 : wk.cell? ⟨p, 0, none⟩ = some (.slice av ds.length cv) := HCELL.out wk HMk.out
      by_cases hlt : j < ds.length
      · have hlt' : (j : Int) < (ds.length : Int) := by omega
        obtain rfl := HAVH.out (by omega)
        obtain ⟨x, hx⟩ : ∃ x, ds[j]? = some x := ⟨ds[j], List.getElem?_eq_getElem hlt⟩
        have my : wk.cell? ⟨gb, of + j * 18 + 2, none⟩ = some (.int .i64 x.1.n) := HRG.out wk HMk.out j x hx 2 _ rfl
        have hb1 : (0 : Int) ≤ (j : Int) := by omega
        have hjb : (j : Int) + 1 ≤ 1000000 := by omega
        have HLT : Hid (j < ds.length) := hlt
        have HX : Hid (ds[j]? = some x) := hx
        clear hx
        rcases hbest.out with ⟨ett, hnone⟩ | ⟨t, y, ht, ett, hy, hly, hmin⟩
        · subst ett
          have HN1 : Hid (∀ t z, t < j → ds[t]? = some z → ¬ last < z.1.n) := hnone
          clear hnone
          by_cases hc : last < x.1.n
          · have HBe : Hid (Best ds last (j + 1) (j : Int)) := hbest.out.take HX.out hc (fun t y e _ => by omega)
            generalize x.1.n = yn at my hc
            go_wp2_with (fail)
            go_quiet (fail)
            go_wp2_with (fail)
            go_roundw
            case rel => exact ⟨j + 1, _, q + nq, by go_num, rfl, HLT.out, HBe, by simp⟩
            case measure => have := HLT.out; simp [intOf]; omega
          · have HBe : Hid (Best ds last (j + 1) (-1)) := hbest.out.keep HX.out (fun h => absurd h hc)
            generalize x.1.n = yn at my hc
            have hcd : decide (last < yn) = false := decide_eq_false hc
            have hle : yn ≤ last := by omega
            clear hc
            go_wp2_with (fail)
            go_quiet (fail)
            go_wp2_with (fail)
            go_roundw
            case rel => exact ⟨j + 1, _, q + nq, by go_num, rfl, HLT.out, HBe, by simp⟩
            case measure => have := HLT.out; simp [intOf]; omega
        · subst ett
          have mz : wk.cell? ⟨gb, of + t * 18 + 2, none⟩ = some (.int .i64 y.1.n) := HRG.out wk HMk.out t y hy 2 _ rfl
          have ht0 : (0 : Int) ≤ (t : Int) := by omega
          have htl : (t : Int) < (ds.length : Int) := by omega
          have htn : ¬ (t : Int) < 0 := by omega
          have HY : Hid (ds[t]? = some y ∧ last < y.1.n) := ⟨hy, hly⟩
          clear hmin hy hly ht
          by_cases hc : last < x.1.n
          · by_cases hc2 : x.1.n < y.1.n
            · have HBe : Hid (Best ds last (j + 1) (j : Int)) := hbest.out.take HX.out hc (fun t2 y2 e hy2 => by
                obtain rfl : t = t2 := by omega
                rw [HY.out.1] at hy2
                cases hy2
                exact hc2)
              generalize x.1.n = yn at my hc hc2
              generalize y.1.n = zn at mz hc2
              go_wp2_with (fail)
              go_quiet (fail)
              go_wp2_with (fail)
              go_roundw
              case rel => exact ⟨j + 1, _, q + nq, by go_num, rfl, HLT.out, HBe, by simp⟩
              case measure => have := HLT.out; simp [intOf]; omega
            · have HBe : Hid (Best ds last (j + 1) (t : Int)) := hbest.out.keep HX.out (fun _ => ⟨t, y, rfl, HY.out.1, by omega⟩)
              generalize x.1.n = yn at my hc hc2
              generalize y.1.n = zn at mz hc2
              have hcd : decide (yn < zn) = false := decide_eq_false hc2
              obtain ⟨b1, hb1'⟩ : ∃ b1, decide (last < yn) = b1 := ⟨_, rfl⟩
              obtain ⟨b2, hb2'⟩ : ∃ b2, decide (yn < zn) = b2 := ⟨_, rfl⟩
              obtain rfl : b1 = true := by rw [← hb1']; exact decide_eq_true hc
              obtain rfl : b2 = false := by rw [← hb2']; exact hcd
              clear hc2 hc hcd
              have htd : decide ((t : Int) < 0) = false := decide_eq_false htn
              clear htn
              go_wp2_with (fail)
              go_quiet (fail)
              clear my mz c0 hj hb1' hb2'
              go_wp2_with (fail)
              go_roundw
              case rel => exact ⟨j + 1, _, q + nq, by go_num, rfl, HLT.out, HBe, by simp⟩
              case measure => have := HLT.out; simp [intOf]; omega
          · have HBe : Hid (Best ds last (j + 1) (t : Int)) := hbest.out.keep HX.out (fun h => absurd h hc)
            generalize x.1.n = yn at my hc
            generalize y.1.n = zn at mz
            have hcd : decide (last < yn) = false := decide_eq_false hc
            clear hc
            go_wp2_with (fail)
            go_quiet (fail)
            go_wp2_with (fail)
            go_roundw
            case rel => exact ⟨j + 1, _, q + nq, by go_num, rfl, HLT.out, HBe, by simp⟩
            case measure => have := HLT.out; simp [intOf]; omega
      · have HJE : Hid (j = ds.length) := by show _ = _; omega
        rw [HJE.out] at hbest
        have hMq : Mod (fun _ => False) w (wk.drewN q) := HMk.out.drewN q
        have hRq := HRd.out.keep ((Mod.refl (fun _ => False) wk).drewN q)
        rcases hbest.out with ⟨ett, hnone⟩ | ⟨t, y, ht, ett, hy, hly, hmin⟩
        · subst ett
          have HK : Hid (Ks (jl L) s zs) := hup.out.done fun t' z hz => by
            obtain ⟨u, hu⟩ := HGET2.out t' z hz
            exact hnone t' _ (List.getElem?_eq_some_iff.1 hu).1 hu
          clear hnone hbest
          go_wp2_with (fail)
          go_ret
          exact ⟨_, os, zs, rfl, hRq, HK.out, hmap.out, hMq⟩
        · subst ett
          obtain rfl := HAVH.out (by omega)
          obtain ⟨d, u⟩ := y
          have hyL := HGET.out t _ hy
          have hdj := HDIS.out.jl hyL
          have HUP2 : Hid (Up (jl L) s d.n (zs ++ [d.n])) := hup.out.step hyL hdj hly fun t' z hz hlz => by
            obtain ⟨u', hu'⟩ := HGET2.out t' z hz
            exact hmin t' _ (List.getElem?_eq_some_iff.1 hu').1 hu' hlz
          have HAB : Hid (ab L d.n < ab L last) := ab_lt (List.mem_of_getElem? hyL) hly
          have HDJ : Hid (jl L d.n = some d) := hdj
          obtain ⟨ho, -, hr, hb⟩ := HE.out _ (List.mem_of_getElem? hy)
          have HO : Hid (Own (wk.drewN q) u d.m.body) := ho.mod hMq (fun _ _ h => h)
          have hra : (wk.drewN q).rangeAt gb (of + t * 18) (dcl d u) := HRG.out _ hMq t (d, u) hy
          have mz : wk.cell? ⟨gb, of + t * 18 + 2, none⟩ = some (.int .i64 d.n) := HRG.out wk HMk.out t (d, u) hy 2 _ rfl
          obtain ⟨au, cu, rfl⟩ := HO.out.shape
          have HRR : Hid ((∀ c ∈ d.m.body, 0 ≤ c ∧ c ≤ 255) ∧ d.m.body.length ≤ 140737488355328) := ⟨hr, hb⟩
          have HC := copy_dt d _ (wk.drewN q) (HO.out.sl hr) hb
          have ht0 : (0 : Int) ≤ (t : Int) := by omega
          have htl : (t : Int) < (ds.length : Int) := by omega
          have htn : ¬ (t : Int) < 0 := by omega
          have HLEN : Hid ((os.length + 1) * 160 ≤ 140737488355328 ∧ os.length + 1 ≤ 9223372036854775807) := by
            have := congrArg List.length hmap.out
            simp at this
            have := hcnt.out
            constructor <;> omega
          clear hmin hy hyL hdj hly ho hr hb hbest ht
          go_wp2_with (refine wpList_load_at info18 Tryz.underlying45 rfl rfl _ rfl gb (of + t * 18) rfl _ hra rfl ?_; unfold dcl; simp only [Act.put, List.setIfInBounds_toArray, List.set_cons_succ, List.set_cons_zero])
          refine HC.mono ?_
          rintro e w2 ⟨v2, rfl, ho2, hm2, hg2⟩
          obtain ⟨a2, c2, rfl⟩ := ho2.shape
          have hA := (Mod.refl (fun _ => False) w2).alloc (.cells (dcl d (.slice a2 d.m.body.length c2)).toArray 45)
          have hR2 := (hRq.keep hm2).keep hA
          have hSG := SG.lit w2 45 (dcl d (.slice a2 d.m.body.length c2)) (dcl_one d a2 _ c2)
          have hoA := ho2.mod hA (fun _ _ h => h)
          have hMA := (hMq.and hm2).and hA
          have HSZ : Hid (w.heap.size ≤ w2.heap.size ∧ w.heap.size ≤ (wk.drewN q).heap.size) := ⟨by have := hMq.size; have := hm2.size; omega, hMq.size⟩
          have HG2 : Hid (∀ g, (Value.slice a2 d.m.body.length c2).ownBlock = some g → (wk.drewN q).heap.size ≤ g) := hg2
          clear HC c0 mz hra ho2 hg2 hm2 hRq hMq hA
          unfold dv
          unfold dcl at hSG
          go_wp2_with (at_builtin; refine wpList_appG elD rfl _ _ rfl _ _ os.length 1 (fd os) _ rfl rfl hR2.row hSG HLEN.out.1 HLEN.out.2 (os.length + 1) rfl ?_; intro ax cx w4 hRG4 hm4 hf4)
          have HR4 := hR2.more hm4 hRG4 hf4 (by have := HSZ.out.1; simp; omega) hoA (fun g hg => Nat.le_trans HSZ.out.2 (HG2.out g hg)) HRR.out.1
          have HM4 : Hid (Mod (fun _ => False) w w4) := hMA.trans hm4 (fun _ _ h => h) (fun g hg e => by have := hR2.new g e; omega)
          have HMAP : Hid ((os ++ [(d, Value.slice a2 d.m.body.length c2)]).map (·.1) = (zs ++ [d.n]).map (fun k => (jl L k).getD d0)) := by
            show _ = _
            rw [List.map_append, hmap.out, List.map_append]
            simp [HDJ.out]
          have HR5 : Hid (Rd18 w4 _ _ _) := HR4
          have HCN : Hid ((zs ++ [d.n]).length + ab L d.n ≤ ds.length) := by show _ ≤ _; have := hcnt.out; have := HAB.out; simp; omega
          clear HR4 hm4 hf4 hRG4 hMA hR2 hoA hSG
          go_roundw
          case rel => exact ⟨d.n, _, _, rfl, HR5.out, HMAP, HUP2, HCN, HM4.out⟩
          case measure => exact HAB.out
end Go.Proofs.YthiijonmnebjgaaGreat
namespace Go.Proofs.YthiijonmnebjgaaGreat
open Go.RowKit
/-- A message's cells. -/
def mcl (m : Ms) (v : Value) : List Value := [.int .i64 m.kind, .int .i64 m.origin, .int .i64 m.life, .int .i64 m.id, .int .i64 m.part, .int .i64 m.parts, .int .i64 m.groups, .bool m.safe, .int .i64 m.st, .int .i64 m.rs, .int .i64 m.rr, .int .i64 m.sq, v]
theorem mcl_len (m : Ms) (v : Value) : (mcl m v).length = 13 := rfl
theorem mcl_lt {m : Ms} {v c : Value} {t : Nat} (h : (mcl m v)[t]? = some c) : t < 13 := by
  rcases Nat.lt_or_ge t 13 with h' | h'
  · exact h'
  · rw [List.getElem?_eq_none (by exact h')] at h; cases h
/-- The cells of messages, one behind the other. -/
def fm : List (Ms × Value) → List Value
  | [] => []
  | d :: r => mcl d.1 d.2 ++ fm r
theorem fm_len : ∀ ds, (fm ds).length = ds.length * 13
  | [] => rfl
  | d :: r => by rw [fm, List.length_append, fm_len r, mcl_len, List.length_cons]; omega
theorem fm_app : ∀ a b, fm (a ++ b) = fm a ++ fm b
  | [], _ => rfl
  | d :: r, b => by rw [List.cons_append, fm, fm, fm_app r b, List.append_assoc]
theorem fm_get : ∀ (ds : List (Ms × Value)) (i : Nat) (d : Ms × Value), ds[i]? = some d → ∀ t c, (mcl d.1 d.2)[t]? = some c → (fm ds)[i * 13 + t]? = some c
  | [], i, d, h => by simp at h
  | x :: r, 0, d, h => fun t c hc => by
    simp at h
    subst h
    rw [fm, List.getElem?_append_left (by have := mcl_lt hc; rw [mcl_len]; omega)]
    simpa using hc
  | x :: r, i + 1, d, h => fun t c hc => by
    rw [fm, List.getElem?_append_right (by rw [mcl_len]; omega), mcl_len, show (i + 1) * 13 + t - 13 = i * 13 + t by omega]
    exact fm_get r i d (by simpa using h) t c hc
theorem fm_one : ∀ (ds : List (Ms × Value)), (∀ d ∈ ds, d.2.oneCell' = true) → ∀ u ∈ fm ds, u.oneCell' = true
  | [], _ => fun u hu => by cases hu
  | d :: r, h => fun u hu => by
    rw [fm, List.mem_append] at hu
    rcases hu with hu | hu
    · simp only [mcl, List.mem_cons, List.not_mem_nil, or_false] at hu
      rcases hu with rfl | rfl | rfl | rfl | rfl | rfl | rfl | rfl | rfl | rfl | rfl | rfl | rfl
      all_goals first | rfl | exact h d (List.mem_cons_self ..)
    · exact fm_one r (fun x hx => h x (List.mem_cons_of_mem _ hx)) u hu
/-- A slice of messages. -/
structure Mgs (w : World) (val : Value) (ds : List (Ms × Value)) : Prop where
  form : ∃ ao cap, val = .slice ao ds.length cap ∧ ds.length * 120 ≤ 140737488355328 ∧ (ds ≠ [] → ∃ b off, ao = some ⟨b, off, none⟩ ∧ ∀ i d, ds[i]? = some d → w.rangeAt b (off + i * 13) (mcl d.1 d.2))
  each : ∀ d ∈ ds, Sl w d.2 d.1.body ∧ d.1.body.length ≤ 140737488355328
theorem Sl.one {w : World} {v : Value} {l : List Int} (h : Sl w v l) : v.oneCell' = true := by
  obtain ⟨ao, cap, rfl, _⟩ := h.form
  rfl
/-- A row of messages of the call's own, maybe cut at its front. -/
structure RM (w : World) (v : Value) (ds : List (Ms × Value)) : Prop where
  form : ∃ ao cap, v = .slice ao ds.length cap ∧ ds.length ≤ cap ∧ ((ao = none ∧ cap = 0) ∨ ∃ g off cur, ao = some ⟨g, off, none⟩ ∧ Bk w g 43 cur ∧ off + cap * 13 ≤ cur.size ∧ ∀ j c, (fm ds)[j]? = some c → cur[off + j]? = some c)
theorem RM.nil (w : World) : RM w (.slice none 0 0) [] := ⟨⟨none, 0, rfl, Nat.le_refl _, .inl ⟨rfl, rfl⟩⟩⟩
theorem RM.shape {w : World} {v : Value} {ds : List (Ms × Value)} (h : RM w v ds) : ∃ ao cap, v = .slice ao ds.length cap := by
  obtain ⟨ao, cap, e, _⟩ := h.form
  exact ⟨ao, cap, e⟩
theorem RM.mod {S : Nat → Prop} {w w' : World} {v : Value} {ds : List (Ms × Value)} (h : RM w v ds) (hm : Mod S w w') (hv : ∀ g, v.ownBlock = some g → ¬ S g) : RM w' v ds := by
  obtain ⟨ao, cap, rfl, h1, h2⟩ := h.form
  refine ⟨⟨ao, cap, rfl, h1, ?_⟩⟩
  rcases h2 with h2 | ⟨g, off, cur, rfl, hB, hs, hc⟩
  · exact .inl h2
  · exact .inr ⟨g, off, cur, rfl, hB.mod hm (hv g rfl), hs, hc⟩
theorem RM.lt {w : World} {v : Value} {ds : List (Ms × Value)} (h : RM w v ds) : ∀ g, v.ownBlock = some g → g < w.heap.size := by
  obtain ⟨ao, cap, rfl, h1, h2⟩ := h.form
  intro g hg
  rcases h2 with ⟨rfl, _⟩ | ⟨g', off, cur, rfl, hB, _⟩
  · cases hg
  · simp only [Value.ownBlock, Option.some.injEq] at hg
    subst hg
    exact hB.lt
theorem RM.kind {w : World} {v : Value} {ds : List (Ms × Value)} (h : RM w v ds) {g : Nat} (hg : v.ownBlock = some g) : ∃ cur, w.heap[g]? = some (.cells cur 43 (0, 0)) := by
  obtain ⟨ao, cap, rfl, h1, h2⟩ := h.form
  rcases h2 with ⟨rfl, _⟩ | ⟨g', off, cur, rfl, hB, _⟩
  · cases hg
  · simp only [Value.ownBlock, Option.some.injEq] at hg
    subst hg
    exact ⟨cur, hB.at'⟩
theorem RM.own_ne {w : World} {v u : Value} {ds : List (Ms × Value)} {l : List Int} (h : RM w v ds) (ho : Own w u l) {g : Nat} (hg : u.ownBlock = some g) : v.ownBlock ≠ some g := fun e => by
  obtain ⟨c1, h1⟩ := h.kind e
  obtain ⟨c2, h2⟩ := ho.kind hg
  rw [h1] at h2
  simp at h2
/-- It reads as messages. -/
theorem RM.mgs {w : World} {v : Value} {ds : List (Ms × Value)} (h : RM w v ds) (hl : ds.length * 120 ≤ 140737488355328) (he : ∀ d ∈ ds, Sl w d.2 d.1.body ∧ d.1.body.length ≤ 140737488355328) : Mgs w v ds := by
  obtain ⟨ao, cap, rfl, h1, h2⟩ := h.form
  refine ⟨⟨ao, cap, rfl, hl, fun hne => ?_⟩, he⟩
  rcases h2 with ⟨rfl, rfl⟩ | ⟨g, off, cur, rfl, hB, hs, hc⟩
  · exact absurd (List.eq_nil_of_length_eq_zero (by omega)) hne
  · refine ⟨g, off, rfl, fun i d hd => hB.range _ _ fun j c hj => ?_⟩
    have := hc _ _ (fm_get ds i d hd j c hj)
    rw [Nat.add_assoc]
    exact this
/-- What is appended. -/
structure Sc (w : World) (u : Value) (es : List (Ms × Value)) : Prop where
  form : ∃ ao cap, u = .slice ao es.length cap ∧ (ao = none → es = []) ∧ ∀ a, ao = some a → ∀ j c, (fm es)[j]? = some c → w.cell? (a.add j) = some c
  one : ∀ d ∈ es, d.2.oneCell' = true
theorem Sc.of {w : World} {u : Value} {es : List (Ms × Value)} (h : RM w u es) (h1 : ∀ d ∈ es, d.2.oneCell' = true) : Sc w u es := by
  obtain ⟨ao, cap, rfl, h2, h3⟩ := h.form
  refine ⟨⟨ao, cap, rfl, fun e => ?_, fun a ha j c hj => ?_⟩, h1⟩
  · rcases h3 with ⟨_, rfl⟩ | ⟨g, off, cur, rfl, _⟩
    · exact List.eq_nil_of_length_eq_zero (by omega)
    · cases e
  · rcases h3 with ⟨rfl, _⟩ | ⟨g, off, cur, rfl, hB, _, hc⟩
    · cases ha
    · simp only [Option.some.injEq] at ha
      subst ha
      rw [Addr.add_mid, hB.cell]
      exact hc j c hj
theorem infoMq : (Tryz.prog.info? 43).map (fun i => (i.zero, i.size, i.bytes)) = some (some (.agg #[.int .i64 0, .int .i64 0, .int .i64 0, .int .i64 0, .int .i64 0, .int .i64 0, .int .i64 0, .bool false, .int .i64 0, .int .i64 0, .int .i64 0, .int .i64 0, .slice none 0 0]), 13, 120) := by kernel_rfl
theorem infoMs : ∃ i z, Tryz.prog.info? 43 = some i ∧ i.zero = some z ∧ i.size = 13 ∧ i.bytes = 120 ∧ z.cells.size = 13 := by
  have h := infoMq
  cases hi : Tryz.prog.info? 43 with
  | none => rw [hi] at h; cases h
  | some i =>
    rw [hi] at h
    simp only [Option.map_some, Option.some.injEq, Prod.mk.injEq] at h
    exact ⟨i, _, rfl, h.1, h.2.1, h.2.2, rfl⟩
theorem Sc.src {w : World} {u : Value} {es : List (Ms × Value)} (h : Sc w u es) {i : TypeInfo} (hs : i.size = 13) : Src Tryz.prog i.size 51 u es.length (fm es) w := by
  obtain ⟨ao, cap, rfl, h1, h2⟩ := h.form
  rw [hs]
  cases ao with
  | none =>
    obtain rfl := h1 rfl
    exact Src.ofNil w Tryz.underlying51 cap
  | some a => exact Src.ofSlice w Tryz.underlying51 a es.length cap (fm es) (fm_len es) (h2 a rfl) (fm_one es h.one)
/-- append of messages, with room or without. -/
theorem run_appM (w : World) (v u : Value) (ds es : List (Ms × Value)) (hv : RM w v ds) (hu : Sc w u es) (hb : (ds.length + es.length) * 120 ≤ 140737488355328) (n : Nat) (hn : n = ds.length + es.length) (ty : TypeId) :
    ∃ ax cx w', (Builtin.append_ #[51, 51] ty #[v, u]).run Tryz.prog w = .ok (.slice ax n cx) w' ∧ RM w' (.slice ax n cx) (ds ++ es) ∧ Mod (fun k => v.ownBlock = some k) w w' ∧ Fr w v (.slice ax n cx) := by
  subst hn
  obtain ⟨i, z, hi, hz, hs, hby, hzs⟩ := infoMs
  have hsrc := hu.src hs
  obtain ⟨ao, cap, rfl, h1, h2⟩ := hv.form
  have grow : cap < ds.length + es.length → (Builtin.firstCells i.size ds.length (.slice ao ds.length cap)).run Tryz.prog w.drew = .ok (fm ds).toArray w.drew → ∃ ax cx w', (Builtin.append_ #[51, 51] ty #[.slice ao ds.length cap, u]).run Tryz.prog w = .ok (.slice ax (ds.length + es.length) cx) w' ∧ RM w' (.slice ax (ds.length + es.length) cx) (ds ++ es) ∧ Mod (fun k => (Value.slice ao ds.length cap).ownBlock = some k) w w' ∧ Fr w (.slice ao ds.length cap) (.slice ax (ds.length + es.length) cx) := fun hg hold => by
    have hr := run_append_grow_src (P := Tryz.prog) w 51 51 ty 43 i z Tryz.underlying51 hi hz ao ds.length cap (fm ds) hold u es.length (fm es) hsrc hg (by omega) (growslice_fits hg (by rw [hby]; exact hb))
    have hge := grownCap_ge w (ds.length + es.length) cap 43
    refine ⟨_, _, _, hr, ⟨⟨_, _, by rw [List.length_append], by rw [List.length_append]; exact hge, .inr ⟨w.heap.size, 0, _, rfl, ⟨heap_alloc_new w.drew _⟩, ?_, fun j c hj => ?_⟩⟩⟩, ((Mod.refl _ w).drew).alloc _, fun g hg => ?_⟩
    · simp only [Array.size_append, List.size_toArray, List.length_append, fm_len, size_zeroCells, hzs]
      omega
    · rw [fm_app] at hj
      rw [Nat.zero_add, Array.getElem?_append_left (by
        rcases Nat.lt_or_ge j (fm ds ++ fm es).length with h | h
        · simpa using h
        · rw [List.getElem?_eq_none h] at hj; cases hj)]
      simpa using hj
    · simp only [Value.ownBlock, Option.some.injEq] at hg
      subst hg
      exact .inr (Nat.le_refl _)
  rcases h2 with ⟨rfl, rfl⟩ | ⟨g, off, cur, rfl, hB, hsz, hc⟩
  · have e0 : ds = [] := List.eq_nil_of_length_eq_zero (by omega)
    subst e0
    by_cases he : es = []
    · subst he
      obtain ⟨ao, cu, rfl, _, _⟩ := hu.form
      refine ⟨none, 0, w, ?_, RM.nil w, Mod.refl _ w, Fr.refl _ _⟩
      have := hsrc.cells
      rcases hsrc.kind with ⟨e', hk⟩ | hk <;> simp [Builtin.append_, run_underlying Tryz.underlying51, sizeOf, typeInfo, hi, Builtin.lenOf]
      all_goals
        rw [hs] at this
        cases ao <;> simp [hs, Builtin.firstCells, loadCells, loadCellsFrom]
    · refine grow (by have := List.length_pos_iff.2 he; simpa using this) ?_
      exact run_firstCells_none w.drew i.size 0 0 0
  · by_cases hroom : ds.length + es.length ≤ cap
    · have hth : ∀ j, j < (fm es).length → off + ds.length * i.size + j < cur.size := fun j hj => by
        rw [fm_len] at hj
        rw [hs]
        omega
      have hr := run_append_room_src (P := Tryz.prog) w 51 51 ty 43 i Tryz.underlying51 hi g off ds.length cap u es.length (fm es) hsrc hroom
        (fun j hj => by rw [hB.cell, Array.getElem?_eq_getElem (hth j hj)]; rfl) (fun j hj => hB.frz _)
      rw [hs] at hr hth
      have hB' := Bk.stores (fm es) (off + ds.length * 13) hB
      refine ⟨_, _, _, hr, ⟨⟨_, cap, by rw [List.length_append], by rw [List.length_append]; exact hroom, .inr ⟨g, off, _, rfl, hB', by rw [sets'_size]; exact hsz, fun j c hj => ?_⟩⟩⟩, (setCells_mod g (fm es) _ w).mono (fun k _ hk => by subst hk; rfl), Fr.refl _ _⟩
      rw [sets'_get _ _ _ _ (by rw [fm_len]; omega)]
      rw [fm_app] at hj
      by_cases hj1 : j < (fm ds).length
      · rw [List.getElem?_append_left hj1] at hj
        rw [fm_len] at hj1
        rw [if_neg (by omega)]
        exact hc j c hj
      · rw [List.getElem?_append_right (by omega)] at hj
        have hj2 : j - (fm ds).length < (fm es).length := by
          rcases Nat.lt_or_ge (j - (fm ds).length) (fm es).length with h | h
          · exact h
          · rw [List.getElem?_eq_none h] at hj; cases hj
        rw [fm_len] at hj1 hj hj2
        rw [if_pos (by omega), show off + j - (off + ds.length * 13) = j - ds.length * 13 by omega]
        exact hj
    · refine grow (by omega) (run_firstCells_some w.drew i.size ds.length ⟨g, off, none⟩ ds.length cap (fm ds) (by rw [hs, fm_len]) fun j c hj => ?_)
      have := hB.cell (off + j)
      rw [hc j c hj] at this
      rw [Addr.add_mid]
      simpa using this
theorem wpList_appM {ops : Array Oper} {rest : List Oper} {o : Oper} {a : Act} {w : World} {Q : Exit → Act → World → Prop} (hgd : o.guard = none) (s x : Operand) (ho : o.op = .call { callee := .builtin .append, args := #[s, x], argTypes := #[51, 51] })
    (v u : Value) (ds es : List (Ms × Value)) (hs : a.eval s = v) (hx : a.eval x = u) (hv : RM w v ds) (hu : Sc w u es) (hb : (ds.length + es.length) * 120 ≤ 140737488355328) (n : Nat) (hn : n = ds.length + es.length)
    (h : ∀ ax cx w', RM w' (.slice ax n cx) (ds ++ es) → Mod (fun k => v.ownBlock = some k) w w' → Fr w v (.slice ax n cx) → wpList Tryz.prog ops Q rest (a.put o.dst (.slice ax n cx)) w') : wpList Tryz.prog ops Q (o :: rest) a w := by
  refine wpList_plain hgd fun K hK => ?_
  obtain ⟨ax, cx, w', hrun, h1, h2, h3⟩ := run_appM w v u ds es hv hu hb n hn o.type
  unfold Oper.wp execOp
  simp only [ho, resolve, invoke, builtin, Sem.run_bind, Sem.run_pure, Result.andThen_ok, List.map_toArray, List.map_cons, List.map_nil, hs, hx, hrun]
  exact hK _ _ (h ax cx w' h1 h2 h3)
theorem step_appM {ops : Array Oper} {o : Oper} {a : Act} {w : World} {K : Act → World → Prop} {Q : Exit → Act → World → Prop} {E : Prop} (hgd : o.guard = none) (s x : Operand) (ho : o.op = .call { callee := .builtin .append, args := #[s, x], argTypes := #[51, 51] })
    (v u : Value) (ds es : List (Ms × Value)) (hs : a.eval s = v) (hx : a.eval x = u) (hv : RM w v ds) (hu : Sc w u es) (hb : (ds.length + es.length) * 120 ≤ 140737488355328) (n : Nat) (hn : n = ds.length + es.length)
    (h : ∀ ax cx w', RM w' (.slice ax n cx) (ds ++ es) → Mod (fun k => v.ownBlock = some k) w w' → Fr w v (.slice ax n cx) → K (a.put o.dst (.slice ax n cx)) w') :
    if Region.wanted o (yielded ops a.tmps) = true then Oper.wp Tryz.prog o a w K Q else E := by
  rw [if_pos (by simp [Region.wanted, hgd])]
  obtain ⟨ax, cx, w', hrun, h1, h2, h3⟩ := run_appM w v u ds es hv hu hb n hn o.type
  unfold Oper.wp execOp
  simp only [ho, resolve, invoke, builtin, Sem.run_bind, Sem.run_pure, Result.andThen_ok, List.map_toArray, List.map_cons, List.map_nil, hs, hx, hrun]
  exact h ax cx w' h1 h2 h3
theorem elemM : Tryz.prog.elem 51 = 43 := by kernel_rfl
theorem undM : Tryz.prog.underlying 51 = some (.slice (Tryz.prog.elem 51)) := by rw [elemM]; exact Tryz.underlying51
theorem sizeM (w : World) : (sizeOf 43).run Tryz.prog w = .ok 13 w := by
  obtain ⟨i, z, hi, hz, hs, hby, hzs⟩ := infoMs
  simp [sizeOf, typeInfo, hi, hs]
/-- The first one cut off. -/
theorem run_cutM (ao : Option Addr) (n cap : Nat) (w : World) (hk : 1 ≤ n) : (Instr.sliceAt 51 (.slice ao n cap) (some (.int .i64 1)) none none).run Tryz.prog w = .ok (.slice (if cap = 1 then ao else ao.map (·.add 13)) (n - 1) (cap - 1)) w := by
  rw [run_sliceAt_slice (h := undM), run_slice_l (ht := undM) (h0 := by omega) (h1 := by omega), elemM, sizeM]
  simp [Result.andThen, sliced]
theorem RM.tail {w : World} {ao : Option Addr} {cap : Nat} {d : Ms × Value} {ds : List (Ms × Value)} (h : RM w (.slice ao (ds.length + 1) cap) (d :: ds)) : RM w (.slice (if cap = 1 then ao else ao.map (·.add 13)) ds.length (cap - 1)) ds := by
  obtain ⟨ao', cap', e, h1, h2⟩ := h.form
  simp only [List.length_cons, Value.slice.injEq, true_and] at e
  obtain ⟨rfl, rfl⟩ := e
  simp only [List.length_cons] at h1
  rcases h2 with ⟨rfl, rfl⟩ | ⟨g, off, cur, rfl, hB, hsz, hc⟩
  · omega
  · by_cases e1 : cap = 1
    · subst e1
      have e0 : ds = [] := List.eq_nil_of_length_eq_zero (by omega)
      subst e0
      exact ⟨⟨some ⟨g, off, none⟩, 0, rfl, by simp, .inr ⟨g, off, cur, rfl, hB, by omega, fun j c hj => by simp [fm] at hj⟩⟩⟩
    · rw [if_neg e1]
      refine ⟨⟨some ⟨g, off + 13, none⟩, cap - 1, by simp [Addr.add_mid], by omega, .inr ⟨g, off + 13, cur, rfl, hB, by omega, fun j c hj => ?_⟩⟩⟩
      have := hc (13 + j) c (by rw [fm, List.getElem?_append_right (by rw [mcl_len]; omega), mcl_len, show 13 + j - 13 = j by omega]; exact hj)
      rw [Nat.add_assoc]
      exact this
end Go.Proofs.YthiijonmnebjgaaGreat
namespace Go.Proofs.YthiijonmnebjgaaGreat
open Go.RowKit
theorem range13 {w : World} {b o : Nat} {k og lf i p ps g : Int} {s : Bool} {st rs rr sq : Int} {l : List Int} {v : Value} (h : w.rangeAt b o (mcl ⟨k, og, lf, i, p, ps, g, s, st, rs, rr, sq, l⟩ v)) :
    w.cell? ⟨b, o, none⟩ = some (.int .i64 k) ∧ w.cell? ⟨b, o + 1, none⟩ = some (.int .i64 og) ∧ w.cell? ⟨b, o + 2, none⟩ = some (.int .i64 lf) ∧ w.cell? ⟨b, o + 3, none⟩ = some (.int .i64 i) ∧ w.cell? ⟨b, o + 4, none⟩ = some (.int .i64 p) ∧ w.cell? ⟨b, o + 5, none⟩ = some (.int .i64 ps) ∧ w.cell? ⟨b, o + 6, none⟩ = some (.int .i64 g) ∧ w.cell? ⟨b, o + 7, none⟩ = some (.bool s) ∧ w.cell? ⟨b, o + 8, none⟩ = some (.int .i64 st) ∧ w.cell? ⟨b, o + 9, none⟩ = some (.int .i64 rs) ∧ w.cell? ⟨b, o + 10, none⟩ = some (.int .i64 rr) ∧ w.cell? ⟨b, o + 11, none⟩ = some (.int .i64 sq) ∧ w.cell? ⟨b, o + 12, none⟩ = some v :=
  ⟨h 0 _ rfl, h 1 _ rfl, h 2 _ rfl, h 3 _ rfl, h 4 _ rfl, h 5 _ rfl, h 6 _ rfl, h 7 _ rfl, h 8 _ rfl, h 9 _ rfl, h 10 _ rfl, h 11 _ rfl, h 12 _ rfl⟩
theorem wpList_store_any {ops : Array Oper} {rest : List Oper} {op : Oper} {a : Act} {w : World} {Q : Exit → Act → World → Prop} {t : TypeId} {n : Nat} (hi : (Tryz.prog.info? t).map (·.size) = some n) (hgd : op.guard = none) (hdt : op.dst = none) (x y : Operand) (ho : op.op = .store t x y)
    (b o : Nat) (cells : Array Value) (hx : a.eval x = .pointer (some ⟨b, o, none⟩)) (hy : a.eval y = .agg cells) (hth : w.there b o n) (hcs : cells.size = n) (h1 : cells.toList.all (·.oneCell') = true)
    (h : wpList Tryz.prog ops Q rest a (w.setCells b o cells.toList)) : wpList Tryz.prog ops Q (op :: rest) a w :=
  wpList_store_mid (P := Tryz.prog) hgd t x y ho b o cells hx hy (by rw [hcs]; exact hth) (by rw [hi, hcs]) (by rw [← Array.all_toList]; exact h1) (by rw [hdt]; exact h)
theorem wpList_store_anyL {ops : Array Oper} {rest : List Oper} {op : Oper} {a : Act} {w : World} {Q : Exit → Act → World → Prop} {t : TypeId} {n : Nat} (hi : (Tryz.prog.info? t).map (·.size) = some n) (hgd : op.guard = none) (hdt : op.dst = none) (x y : Operand) (ho : op.op = .store t x y)
    (b o : Nat) (cells : List Value) (hx : a.eval x = .pointer (some ⟨b, o, none⟩)) (hy : a.eval y = .agg cells.toArray) (hth : w.there b o n) (hcs : cells.length = n) (h1 : cells.all (·.oneCell') = true)
    (h : wpList Tryz.prog ops Q rest a (w.setCells b o cells)) : wpList Tryz.prog ops Q (op :: rest) a w :=
  wpList_store_any hi hgd hdt x y ho b o cells.toArray hx hy hth (by simpa using hcs) (by simpa using h1) (by simpa using h)
theorem wpList_val {ops : Array Oper} {rest : List Oper} {op : Oper} {a : Act} {w w' : World} {Q : Exit → Act → World → Prop} {v : Value} (hw : Region.wanted op (yielded ops a.tmps) = true) (hr : (execOp a.eval op).run Tryz.prog w = .ok (.value v) w')
    (h : wpList Tryz.prog ops Q rest (a.put op.dst v) w') : wpList Tryz.prog ops Q (op :: rest) a w := by
  refine wpList_step fun K hK => ?_
  rw [if_pos hw]
  unfold Oper.wp
  rw [hr]
  exact hK _ _ h
theorem infoM : (Tryz.prog.info? 43).map (·.size) = some 13 := by kernel_rfl
theorem elM : El 51 43 13 120 := ⟨Tryz.underlying51, infoMs⟩
def zm : List Value := [.int .i64 0, .int .i64 0, .int .i64 0, .int .i64 0, .int .i64 0, .int .i64 0, .int .i64 0, .bool false, .int .i64 0, .int .i64 0, .int .i64 0, .int .i64 0, .slice none 0 0]
/-- A message as a value. -/
def mvl (m : Ms) (v : Value) : Value := .agg #[.int .i64 m.kind, .int .i64 m.origin, .int .i64 m.life, .int .i64 m.id, .int .i64 m.part, .int .i64 m.parts, .int .i64 m.groups, .bool m.safe, .int .i64 m.st, .int .i64 m.rs, .int .i64 m.rr, .int .i64 m.sq, v]
def m0 : Ms := ⟨0, 0, 0, 0, 0, 0, 0, false, 0, 0, 0, 0, []⟩
theorem mcl_one (m : Ms) (ao : Option Addr) (n cap : Nat) : ∀ c ∈ mcl m (.slice ao n cap), c.oneCell' = true := fun c hc => by
  simp only [mcl, List.mem_cons, List.not_mem_nil, or_false] at hc
  rcases hc with rfl | rfl | rfl | rfl | rfl | rfl | rfl | rfl | rfl | rfl | rfl | rfl | rfl
  all_goals rfl
theorem Bk.ne_rm {w : World} {p : Nat} {t : TypeId} {xs : Array Value} {v : Value} {n : Nat} {cs : List Value} (h : Bk w p t xs) (ht : t ≠ 43) (hr : RG w 43 13 v n cs) : v.ownBlock ≠ some p := fun e => by
  obtain ⟨cur, hk⟩ := hr.kind e
  rw [h.at'] at hk
  simp at hk
  exact ht hk.2
theorem RG.ne_ow {w : World} {v u : Value} {n : Nat} {cs : List Value} {l : List Int} (h : RG w 43 13 v n cs) (ho : Own w u l) {g : Nat} (hg : u.ownBlock = some g) : v.ownBlock ≠ some g := fun e => by
  obtain ⟨c1, k1⟩ := h.kind e
  obtain ⟨c2, k2⟩ := ho.kind hg
  rw [k1] at k2
  simp at k2
/-- What is left of a Regain, in memory. -/
structure Rg (w : World) (q : Nat) (Y : Nat → Prop) (l : List Ms) : Prop where
  ex : ∃ v ds, Bk w q 60 #[.bool true, v] ∧ RG w 43 13 v ds.length (fm ds) ∧ ds.map (·.1) = l ∧ (∀ g, v.ownBlock = some g → Y g) ∧ ∀ x ∈ ds, Own w x.2 x.1.body ∧ (∀ g, x.2.ownBlock = some g → Y g) ∧ (∀ c ∈ x.1.body, 0 ≤ c ∧ c ≤ 255) ∧ x.1.body.length ≤ 140737488355328
  px : Y q
  lt : ∀ i, Y i → i < w.heap.size
theorem Rg.mod {S : Nat → Prop} {w w' : World} {q : Nat} {Y : Nat → Prop} {l : List Ms} (h : Rg w q Y l) (hm : Mod S w w') (hS : ∀ i, Y i → ¬ S i) : Rg w' q Y l := by
  obtain ⟨⟨v, ds, h1, h2, h3, h4, h5⟩, px, lt⟩ := h
  exact ⟨⟨v, ds, h1.mod hm (hS q px), h2.mod hm (fun g hg => hS g (h4 g hg)), h3, h4, fun x hx => ⟨(h5 x hx).1.mod hm (fun g hg => hS g ((h5 x hx).2.1 g hg)), (h5 x hx).2⟩⟩, px, fun i hi => Nat.lt_of_lt_of_le (lt i hi) hm.size⟩
theorem Rg.keep {w w' : World} {q : Nat} {Y : Nat → Prop} {l : List Ms} (h : Rg w q Y l) (hm : Mod (fun _ => False) w w') : Rg w' q Y l := h.mod hm (fun _ _ h => h)
theorem Rg.more {w : World} {q : Nat} {Y Z : Nat → Prop} {l : List Ms} (h : Rg w q Y l) (hY : ∀ i, Y i → Z i) (hZ : ∀ i, Z i → i < w.heap.size) : Rg w q Z l := by
  obtain ⟨⟨v, ds, h1, h2, h3, h4, h5⟩, px, lt⟩ := h
  exact ⟨⟨v, ds, h1, h2, h3, fun g hg => hY g (h4 g hg), fun x hx => ⟨(h5 x hx).1, fun g hg => hY g ((h5 x hx).2.1 g hg), (h5 x hx).2.2⟩⟩, hY q px, hZ⟩
theorem See_neg {w : World} {p : Nat} {X : Nat → Prop} {J : Int → Option Dt} {a h : Int} {n : Nat} (hw : Wn w p X J a h n) : Calls Tryz.prog 48 #[.pointer (some ⟨p, 0, none⟩), .int .i64 (-1)] w fun e w' => e = .returned (.int .i64 2) ∧ w' = w := by
  obtain ⟨B, V, N, h1, h2, _⟩ := hw.mem.blk
  have HN := isNone_w (w := w) (p := p) (B := B) (h1.cellv (j := 0) rfl)
  clear h1 h2 hw
  go_enter Tryz.func48, Tryz.ntmps48
  go_wp2_with (go_at_call 37; refine HN.mono ?_; rintro e w' ⟨rfl, rfl⟩)
  go_ret
  exact ⟨rfl, rfl⟩
theorem noWin {w : World} {p : Nat} {X : Nat → Prop} {J : Int → Option Dt} {a h : Int} {n : Nat} (hw : Wn w p X J a h n) : Calls Tryz.prog 31 #[.pointer (some ⟨p, 0, none⟩)] w fun e w' => e = .returned (.bool false) ∧ w' = w := by
  have HS := See_neg hw
  clear hw
  go_enter Tryz.func31, Tryz.ntmps31
  go_wp2_with (fail)
  refine HS.mono ?_
  rintro e w' ⟨rfl, rfl⟩
  go_wp2
  go_ret
  exact ⟨rfl, rfl⟩
theorem rNone {w : World} {q : Nat} {Y : Nat → Prop} {l : List Ms} (h : Rg w q Y l) : Calls Tryz.prog 36 #[.pointer (some ⟨q, 0, none⟩)] w fun e w' => e = .returned (.bool false) ∧ w' = w := by
  obtain ⟨v, ds, h1, _⟩ := h.ex
  have c0 : w.cell? ⟨q, 0, none⟩ = some (.bool true) := h1.cellv (j := 0) rfl
  clear h1 h
  go_enter Tryz.func36, Tryz.ntmps36
  go_wp2
  go_ret
  exact ⟨rfl, rfl⟩
theorem Left_r {w : World} {q : Nat} {Y : Nat → Prop} {l : List Ms} (h : Rg w q Y l) : Calls Tryz.prog 9 #[.pointer (some ⟨q, 0, none⟩)] w fun e w' => e = .returned (.int .i64 (l.length : Int)) ∧ w' = w := by
  have HN := rNone h
  obtain ⟨v, ds, h1, h2, rfl, _⟩ := h.ex
  obtain ⟨av, cv, rfl⟩ := h2.shape
  have c1 : w.cell? ⟨q, 1, none⟩ = some (.slice av ds.length cv) := h1.cellv (j := 1) rfl
  clear h1 h2 h
  go_enter Tryz.func9, Tryz.ntmps9
  go_wp2_with (fail)
  refine HN.mono ?_
  rintro e w' ⟨rfl, rfl⟩
  go_wp2
  go_ret
  exact ⟨by simp, rfl⟩
theorem cpd (m : Ms) (v : Value) (w : World) (hs : Sl w v m.body) (hb : m.body.length ≤ 140737488355328) : Calls Tryz.prog 41 #[mvl m v] w fun e w' => ∃ v', e = .returned (mvl m v') ∧ Own w' v' m.body ∧ Mod (fun _ => False) w w' ∧ (∀ g, v'.ownBlock = some g → w.heap.size ≤ g) := by
  obtain ⟨ao, cap, rfl⟩ := hs.shape
  have hA := (Mod.refl (fun _ => False) w).alloc (.cells #[.int .i64 m.kind, .int .i64 m.origin, .int .i64 m.life, .int .i64 m.id, .int .i64 m.part, .int .i64 m.parts, .int .i64 m.groups, .bool m.safe, .int .i64 m.st, .int .i64 m.rs, .int .i64 m.rr, .int .i64 m.sq, .slice ao m.body.length cap] 43)
  have hB0 := Bk.new w #[.int .i64 m.kind, .int .i64 m.origin, .int .i64 m.life, .int .i64 m.id, .int .i64 m.part, .int .i64 m.parts, .int .i64 m.groups, .bool m.safe, .int .i64 m.st, .int .i64 m.rs, .int .i64 m.rr, .int .i64 m.sq, .slice ao m.body.length cap] 43
  have hA2 := hA.alloc (.cells #[.int .i64 0, .int .i64 0, .int .i64 0, .int .i64 0, .int .i64 0, .int .i64 0, .int .i64 0, .bool false, .int .i64 0, .int .i64 0, .int .i64 0, .int .i64 0, .slice none 0 0] 43)
  have hB1 := hB0.mod ((Mod.refl (fun _ => False) _).alloc (.cells #[.int .i64 0, .int .i64 0, .int .i64 0, .int .i64 0, .int .i64 0, .int .i64 0, .int .i64 0, .bool false, .int .i64 0, .int .i64 0, .int .i64 0, .int .i64 0, .slice none 0 0] 43)) (fun h => h)
  have hB2 := Bk.new2 w (.cells #[.int .i64 m.kind, .int .i64 m.origin, .int .i64 m.life, .int .i64 m.id, .int .i64 m.part, .int .i64 m.parts, .int .i64 m.groups, .bool m.safe, .int .i64 m.st, .int .i64 m.rs, .int .i64 m.rr, .int .i64 m.sq, .slice ao m.body.length cap] 43) #[.int .i64 0, .int .i64 0, .int .i64 0, .int .i64 0, .int .i64 0, .int .i64 0, .int .i64 0, .bool false, .int .i64 0, .int .i64 0, .int .i64 0, .int .i64 0, .slice none 0 0] 43
  have c12 := hB1.cellv (j := 12) rfl
  have HC := clone_any _ _ _ (hs.mod hA2 (fun _ _ h => h)) hb
  have HB1 : Hid (Bk _ _ _ _) := hB1
  have HB2 : Hid (Bk _ _ _ _) := hB2
  have HA2 : Hid (Mod _ _ _) := hA2
  unfold mvl
  clear hA hB0 hs hb hB1 hB2 hA2
  go_enter Tryz.func41, Tryz.ntmps41
  go_wp2_with (fail)
  refine HC.mono ?_
  rintro e w2 ⟨v2, rfl, ho, hm, hg⟩
  obtain ⟨a2, c2, rfl⟩ := ho.shape
  have hK1 := HB1.out.mod hm (fun h => h)
  have hK2 := HB2.out.mod hm (fun h => h)
  have f12 := hK1.frz 12
  have c12b := hK1.cellv (j := 12) rfl
  have hK1' := hK1.set 12 (.slice a2 m.body.length c2)
  have hm3 := (Mod.refl (fun i => i = w.heap.size) w2).setCell ⟨w.heap.size, 12, none⟩ (.slice a2 m.body.length c2) (.inl rfl)
  have hK2' := hK2.mod hm3 (by simp)
  have ho3 := ho.mod hm3 (fun g hg' e => hK1.ne_ow (by decide) ho (e ▸ hg'))
  simp only [List.setIfInBounds_toArray, List.set_cons_succ, List.set_cons_zero] at hK1'
  have HM3 : Hid (Mod (fun _ => False) w (w2.setCell ⟨w.heap.size, 12, none⟩ (.slice a2 m.body.length c2))) := (HA2.out.and hm).trans hm3 (V := fun _ => False) (fun _ _ h => h) (fun i hi e => by omega)
  have HO3 : Hid (Own _ _ _) := ho3
  have HG : Hid (∀ g, (Value.slice a2 m.body.length c2).ownBlock = some g → w.heap.size ≤ g) := fun g h => by have := hg g h; simp at this; omega
  clear hK1 hK2 ho hm hg HB1 HB2 HC c12 hm3 ho3 HA2
  go_wp2_with (first | (refine wpList_load_row infoM Tryz.underlying43 rfl rfl _ rfl w.heap.size rfl hK1' rfl ?_; simp only [Act.put, List.setIfInBounds_toArray, List.set_cons_succ, List.set_cons_zero]) | (refine wpList_store_row infoM rfl rfl _ _ rfl (w.heap.size + 1) #[.int .i64 m.kind, .int .i64 m.origin, .int .i64 m.life, .int .i64 m.id, .int .i64 m.part, .int .i64 m.parts, .int .i64 m.groups, .bool m.safe, .int .i64 m.st, .int .i64 m.rs, .int .i64 m.rr, .int .i64 m.sq, .slice a2 m.body.length c2] rfl rfl hK2' rfl rfl rfl ?_; intro wF hBF hMF))
  refine bodyPost_ret (resT infoM Tryz.underlying43 rfl rfl rfl hBF rfl) rfl ?_
  exact ⟨_, rfl, HO3.out.mod hMF (fun i hi e => hK2'.ne_ow (by decide) HO3.out (e ▸ hi)), HM3.out.trans hMF (V := fun _ => False) (fun _ _ h => h) (fun i hi h => by omega), HG.out⟩
/-- The first one of a row stored anew. -/
theorem RG.first {w : World} {et : TypeId} {sz : Nat} {g off cap n : Nat} {c0 cs zs : List Value} (h : RG w et sz (.slice (some ⟨g, off, none⟩) (n + 1) cap) (n + 1) (c0 ++ cs)) (hd : c0.length = sz) (hz : zs.length = sz) : RG (w.setCells g off zs) et sz (.slice (some ⟨g, off, none⟩) (n + 1) cap) (n + 1) (zs ++ cs) := by
  have hl := h.len
  obtain ⟨ao', cap', e, h1, h2⟩ := h.form
  simp only [Value.slice.injEq, true_and] at e
  obtain ⟨rfl, rfl⟩ := e
  rcases h2 with ⟨h2, _⟩ | ⟨g', off', cur, e, hB, hs, hc⟩
  · cases h2
  simp only [Option.some.injEq, Addr.mk.injEq, and_true] at e
  obtain ⟨rfl, rfl⟩ := e
  have hcz : off + zs.length ≤ cur.size := by
    have : (n + 1) * sz ≤ cap * sz := Nat.mul_le_mul_right _ h1
    rw [Nat.add_mul, Nat.one_mul] at this
    omega
  refine ⟨by rw [← hl, List.length_append, List.length_append, hd, hz], ⟨_, _, rfl, h1, .inr ⟨g, off, _, rfl, hB.stores zs off, by rw [sets'_size]; exact hs, fun j c hj => ?_⟩⟩⟩
  rw [sets'_get _ _ _ _ hcz]
  by_cases e : j < zs.length
  · rw [if_pos (by omega), show off + j - off = j by omega]
    rwa [List.getElem?_append_left e] at hj
  · rw [if_neg (by omega)]
    rw [List.getElem?_append_right (by omega)] at hj
    refine hc j c ?_
    rw [List.getElem?_append_right (by omega), hd, ← hz]
    exact hj
theorem Next_nil {w : World} {q : Nat} {Y : Nat → Prop} (h : Rg w q Y []) : Calls Tryz.prog 12 #[.pointer (some ⟨q, 0, none⟩)] w fun e w' => e = .returned (.tuple #[mvl m0 (.slice none 0 0), .int .i64 8]) ∧ Mod (fun _ => False) w w' := by
  have hA := (Mod.refl (fun _ => False) w).alloc (.cells #[.int .i64 0, .int .i64 0, .int .i64 0, .int .i64 0, .int .i64 0, .int .i64 0, .int .i64 0, .bool false, .int .i64 0, .int .i64 0, .int .i64 0, .int .i64 0, .slice none 0 0] 43)
  have hB := Bk.new w #[.int .i64 0, .int .i64 0, .int .i64 0, .int .i64 0, .int .i64 0, .int .i64 0, .int .i64 0, .bool false, .int .i64 0, .int .i64 0, .int .i64 0, .int .i64 0, .slice none 0 0] 43
  have HN := rNone (h.keep hA)
  obtain ⟨v, ds, h1, h2, h3, _⟩ := h.ex
  obtain rfl : ds = [] := by simpa using h3
  obtain ⟨av, cv, rfl⟩ := h2.shape
  have c1 := (h1.mod hA (fun h => h)).cellv (j := 1) rfl
  simp only [List.length_nil] at c1
  have HA : Hid (Mod _ _ _) := hA
  clear h1 h2 h3 h hA
  go_enter Tryz.func12, Tryz.ntmps12
  go_wp2_with (first | (go_at_call 36; refine HN.mono ?_; rintro e w' ⟨rfl, rfl⟩) | (refine wpList_store_row infoM rfl rfl _ _ rfl w.heap.size #[.int .i64 0, .int .i64 0, .int .i64 0, .int .i64 0, .int .i64 0, .int .i64 0, .int .i64 0, .bool false, .int .i64 0, .int .i64 0, .int .i64 0, .int .i64 0, .slice none 0 0] rfl rfl hB rfl rfl rfl ?_; intro wF hBF hMF))
  refine bodyPost_ret (resT2 infoM Tryz.underlying43 rfl rfl rfl rfl hBF rfl) rfl ?_
  exact ⟨rfl, HA.out.trans hMF (V := fun _ => False) (fun _ _ h => h) (fun i hi h => by omega)⟩
set_option maxRecDepth 100000 in
set_option maxHeartbeats 4000000 in
theorem Next_cons {w : World} {q : Nat} {Y : Nat → Prop} {m : Ms} {l : List Ms} (h : Rg w q Y (m :: l)) : Calls Tryz.prog 12 #[.pointer (some ⟨q, 0, none⟩)] w fun e w' => ∃ v, e = .returned (.tuple #[mvl m v, .int .i64 0]) ∧ Own w' v m.body ∧ (∀ g, v.ownBlock = some g → w.heap.size ≤ g) ∧ (∀ c ∈ m.body, 0 ≤ c ∧ c ≤ 255) ∧ m.body.length ≤ 140737488355328 ∧ Rg w' q Y l ∧ Mod Y w w' := by
  have hA := (Mod.refl (fun _ => False) w).alloc (.cells #[.int .i64 0, .int .i64 0, .int .i64 0, .int .i64 0, .int .i64 0, .int .i64 0, .int .i64 0, .bool false, .int .i64 0, .int .i64 0, .int .i64 0, .int .i64 0, .slice none 0 0] 43)
  have hB := Bk.new w #[.int .i64 0, .int .i64 0, .int .i64 0, .int .i64 0, .int .i64 0, .int .i64 0, .int .i64 0, .bool false, .int .i64 0, .int .i64 0, .int .i64 0, .int .i64 0, .slice none 0 0] 43
  have HN := rNone (h.keep hA)
  have hA' := h.keep hA
  obtain ⟨⟨v, ds, h1, h2, h3, h4, h5⟩, px, lt⟩ := h
  obtain ⟨⟨m', v0⟩, dsr, rfl⟩ : ∃ d r, ds = d :: r := by
    cases ds with
    | nil => simp at h3
    | cons a r => exact ⟨a, r, rfl⟩
  simp only [List.map_cons, List.cons.injEq] at h3
  obtain ⟨rfl, h3⟩ := h3
  obtain ⟨xo, xg, xr, xb⟩ := h5 _ (List.mem_cons_self ..)
  simp only at xo xg xr xb
  obtain ⟨ao, cap, rfl⟩ := xo.shape
  obtain ⟨gb, ob, cg, ev, hrg⟩ := (h2.mod hA (fun _ _ h => h)).range (by simp)
  subst ev
  simp only [List.length_cons] at h1 h2 h4
  have hra : (w.alloc (.cells #[.int .i64 0, .int .i64 0, .int .i64 0, .int .i64 0, .int .i64 0, .int .i64 0, .int .i64 0, .bool false, .int .i64 0, .int .i64 0, .int .i64 0, .int .i64 0, .slice none 0 0] 43)).rangeAt gb ob (mcl m' (.slice ao m'.body.length cap)) := fun j c hj => hrg j c (by
    have := fm_get ((m', .slice ao m'.body.length cap) :: dsr) 0 _ rfl j c hj
    simpa using this)
  have c1 : (w.alloc (.cells #[.int .i64 0, .int .i64 0, .int .i64 0, .int .i64 0, .int .i64 0, .int .i64 0, .int .i64 0, .bool false, .int .i64 0, .int .i64 0, .int .i64 0, .int .i64 0, .slice none 0 0] 43)).cell? ⟨q, 1, none⟩ = some (.slice (some ⟨gb, ob, none⟩) (dsr.length + 1) cg) := (h1.mod hA (fun h => h)).cellv (j := 1) rfl
  have HC := cpd m' _ _ ((xo.sl xr).mod hA (fun _ _ h => h)) xb
  obtain ⟨an, han⟩ : ∃ an, (if cg = 1 then some ⟨gb, ob, none⟩ else (some ⟨gb, ob, none⟩ : Option Addr).map (·.add 13)) = an := ⟨_, rfl⟩
  have HAN : Hid ((if cg = 1 then some ⟨gb, ob, none⟩ else (some ⟨gb, ob, none⟩ : Option Addr).map (·.add 13)) = an) := han
  have HR : Hid (RG w 43 13 (.slice (some ⟨gb, ob, none⟩) (dsr.length + 1) cg) (dsr.length + 1) (fm ((m', .slice ao m'.body.length cap) :: dsr))) := h2
  have HK : Hid (Bk w q 60 #[.bool true, .slice (some ⟨gb, ob, none⟩) (dsr.length + 1) cg]) := h1
  have HY : Hid (Y gb ∧ Y q ∧ (∀ i, Y i → i < w.heap.size)) := ⟨h4 gb rfl, px, lt⟩
  have H5 : Hid (∀ x ∈ dsr, Own w x.2 x.1.body ∧ (∀ g, x.2.ownBlock = some g → Y g) ∧ (∀ c ∈ x.1.body, 0 ≤ c ∧ c ≤ 255) ∧ x.1.body.length ≤ 140737488355328) := fun x hx => h5 x (List.mem_cons_of_mem _ hx)
  have H3 : Hid (dsr.map (·.1) = l) := h3
  have HX : Hid ((∀ c ∈ m'.body, 0 ≤ c ∧ c ≤ 255) ∧ m'.body.length ≤ 140737488355328) := ⟨xr, xb⟩
  have HA : Hid (Mod _ _ _) := hA
  have HB : Hid (Bk _ _ _ _) := hB
  have hln : ¬ (dsr.length : Int) + 1 = 0 := by omega
  have hle : (0 : Int) < (dsr.length : Int) + 1 := by omega
  have hle2 : (1 : Int) ≤ (dsr.length : Int) + 1 := by omega
  clear h1 h2 h3 h4 h5 hrg han xo xg xr xb px lt hA' hA hB
  go_enter Tryz.func12, Tryz.ntmps12
  go_wp2_with (first | (go_at_call 36; refine HN.mono ?_; rintro e w' ⟨rfl, rfl⟩) | (refine wpList_load_at infoM Tryz.underlying43 rfl rfl _ rfl gb ob rfl _ hra rfl ?_; unfold mcl; simp only [Act.put, List.setIfInBounds_toArray, List.set_cons_succ, List.set_cons_zero]))
  unfold mvl at HC
  refine HC.mono ?_
  rintro e w2 ⟨v2, rfl, ho, hm, hg⟩
  obtain ⟨a2, c2, rfl⟩ := ho.shape
  have c12 := hm.cell c1 (fun h => h)
  have HO : Hid (Own w2 (.slice a2 m'.body.length c2) m'.body) := ho
  have HG : Hid (∀ g, (Value.slice a2 m'.body.length c2).ownBlock = some g → w.heap.size ≤ g) := fun g h => by have := hg g h; simp at this; omega
  have HM2 : Hid (Mod (fun _ => False) w w2) := HA.out.and hm
  have HB2 : Hid (Bk w2 w.heap.size 43 #[.int .i64 0, .int .i64 0, .int .i64 0, .int .i64 0, .int .i64 0, .int .i64 0, .int .i64 0, .bool false, .int .i64 0, .int .i64 0, .int .i64 0, .int .i64 0, .slice none 0 0]) := HB.out.mod hm (fun h => h)
  clear HN HC hra c1 ho hg
  go_upto_region 6 with (refine wpList_store_row infoM rfl rfl _ _ rfl w2.heap.size #[.int .i64 m'.kind, .int .i64 m'.origin, .int .i64 m'.life, .int .i64 m'.id, .int .i64 m'.part, .int .i64 m'.parts, .int .i64 m'.groups, .bool m'.safe, .int .i64 m'.st, .int .i64 m'.rs, .int .i64 m'.rr, .int .i64 m'.sq, (.slice a2 m'.body.length c2)] rfl rfl (Bk.new w2 _ _) rfl rfl rfl ?_; intro w3 hB4 hm3)
  have HM3 : Hid (Mod (fun _ => False) w2 w3) := ((Mod.refl (fun _ => False) w2).alloc _).trans hm3 (V := fun _ => False) (fun _ _ h => h) (fun i hi e => by omega)
  have c13 := HM3.out.cell c12 (fun h => h)
  have hM23 : Mod (fun _ => False) w w3 := HM2.out.and HM3.out
  have hR3 := HR.out.mod hM23 (fun _ _ h => h)
  have hth : w3.there gb ob 13 := by
    obtain ⟨ao', cap', e, k1, k2⟩ := hR3.form
    simp only [Value.slice.injEq, true_and] at e
    obtain ⟨rfl, rfl⟩ := e
    rcases k2 with ⟨k2, _⟩ | ⟨g', off', cur, e, hBB, hs, _⟩
    · cases k2
    simp only [Option.some.injEq, Addr.mk.injEq, and_true] at e
    obtain ⟨rfl, rfl⟩ := e
    exact hBB.there (by omega)
  have hK3 := HK.out.mod hM23 (fun h => h)
  have hqg : ¬ q = gb := fun e => hK3.ne_rm (by decide) hR3 (by rw [e]; rfl)
  rw [show fm ((m', Value.slice ao m'.body.length cap) :: dsr) = mcl m' (.slice ao m'.body.length cap) ++ fm dsr from rfl] at hR3
  have hR4 := hR3.first (zs := zm) rfl rfl
  have hmz := setCells_mod gb zm ob w3
  have c14 := hmz.cell c13 hqg
  have hK4 := hK3.mod hmz hqg
  have f14 := hK4.frz 1
  have hK5 := hK4.set 1 (.slice an dsr.length (cg - 1))
  simp only [List.setIfInBounds_toArray, List.set_cons_succ, List.set_cons_zero] at hK5
  obtain ⟨hR5, hR5o⟩ := RG.tail (ds := zm) (show zm.length = 13 from rfl) hR4 HAN.out
  have hm5 := (Mod.refl (fun i => i = q) (w3.setCells gb ob zm)).setCell ⟨q, 1, none⟩ (.slice an dsr.length (cg - 1)) (.inl rfl)
  have hR6 := hR5.mod hm5 (fun g hg e => hK4.ne_rm (by decide) hR5 (e ▸ hg))
  have hy := HY.out
  have hsz2 := HM2.out.size
  have hsz3 := HM3.out.size
  have hB5 := (hB4.mod hmz (fun e => by have := hy.2.2 gb hy.1; omega)).mod hm5 (fun e => by have := hy.2.2 q hy.2.1; omega)
  have hB25 := ((HB2.out.mod HM3.out (fun h => h)).mod hmz (fun e => by have := hy.2.2 gb hy.1; omega)).mod hm5 (fun e => by have := hy.2.2 q hy.2.1; omega)
  have hMM : Mod Y w ((w3.setCells gb ob zm).setCell ⟨q, 1, none⟩ (.slice an dsr.length (cg - 1))) := (hM23.none.trans hmz (V := Y) (fun _ _ h => h) (fun i _ e => e ▸ hy.1)).trans hm5 (fun _ _ h => h) (fun i _ e => e ▸ hy.2.1)
  have hMO : ∀ u lb, Own w3 u lb → Own ((w3.setCells gb ob zm).setCell ⟨q, 1, none⟩ (.slice an dsr.length (cg - 1))) u lb := fun u lb hu => by
    have h1 := hu.mod hmz (fun g hg e => hR3.ne_ow hu hg (by rw [e]; rfl))
    exact h1.mod hm5 (fun g hg e => hK4.ne_ow (by decide) h1 (e ▸ hg))
  have hO6 := hMO _ _ (HO.out.mod HM3.out (fun _ _ h => h))
  have HS6 : Hid (w3.heap.size ≤ ((w3.setCells gb ob zm).setCell ⟨q, 1, none⟩ (.slice an dsr.length (cg - 1))).heap.size) := Nat.le_trans hmz.size hm5.size
  have H56 : Hid (∀ x ∈ dsr, Own ((w3.setCells gb ob zm).setCell ⟨q, 1, none⟩ (.slice an dsr.length (cg - 1))) x.2 x.1.body ∧ (∀ g, x.2.ownBlock = some g → Y g) ∧ (∀ c ∈ x.1.body, 0 ≤ c ∧ c ≤ 255) ∧ x.1.body.length ≤ 140737488355328) := fun x hx => ⟨hMO _ _ ((H5.out x hx).1.mod hM23 (fun _ _ h => h)), (H5.out x hx).2⟩
  have HR6 : Hid (RG _ _ _ _ _ _) := hR6
  have HR5O : Hid (∀ g, (Value.slice an dsr.length (cg - 1)).ownBlock = some g → g = gb) := fun g hg => by have := hR5o g hg; simp [Value.ownBlock] at this; exact this.symm
  have HK5 : Hid (Bk _ _ _ _) := hK5
  have HMM : Hid (Mod _ _ _) := hMM
  have HO6 : Hid (Own _ _ _) := hO6
  have HB25 : Hid (Bk _ _ _ _) := hB25
  have HB5 : Hid (Bk _ _ _ _) := hB5
  clear hR3 hR4 hR5 hR6 hK3 hK4 hK5 hmz hm5 hMM hMO hB4 hm3 c12 hR5o hO6 hB25 hB5 hqg hy hsz2 hsz3 hM23
  go_upto_region 7 with (refine wpList_store_anyL infoM rfl rfl _ _ rfl gb ob zm rfl rfl hth rfl rfl ?_)
  generalize w3.setCells gb ob zm = w4 at *
  go_upto_region 8 with (refine wpList_val (by rfl) (exec_cutG elM elemM HAN.out rfl rfl rfl) ?_; simp only [Act.put, List.setIfInBounds_toArray, List.set_cons_succ, List.set_cons_zero])
  generalize w4.setCell ⟨q, 1, none⟩ (.slice an dsr.length (cg - 1)) = w6 at *
  have hK25 := HB25.out
  have hK45 := HB5.out
  go_wp2_with (first | (refine wpList_load_row infoM Tryz.underlying43 rfl rfl _ rfl w2.heap.size rfl hK45 rfl ?_; simp only [Act.put, List.setIfInBounds_toArray, List.set_cons_succ, List.set_cons_zero]) | (refine wpList_store_row infoM rfl rfl _ _ rfl w.heap.size #[.int .i64 m'.kind, .int .i64 m'.origin, .int .i64 m'.life, .int .i64 m'.id, .int .i64 m'.part, .int .i64 m'.parts, .int .i64 m'.groups, .bool m'.safe, .int .i64 m'.st, .int .i64 m'.rs, .int .i64 m'.rr, .int .i64 m'.sq, (.slice a2 m'.body.length c2)] rfl rfl hK25 rfl rfl rfl ?_; intro wF hBF hMF))
  refine bodyPost_ret (resT2 infoM Tryz.underlying43 rfl rfl rfl rfl hBF rfl) rfl ?_
  have hy := HY.out
  have hs6 := HS6.out
  have hs2 := HM2.out.size
  have hs3 := HM3.out.size
  have hsF := hMF.size
  have hOF : ∀ u lb, Own w6 u lb → Own wF u lb := fun u lb hu => hu.mod hMF (fun g hg e => hK25.ne_ow (by decide) hu (e ▸ hg))
  refine ⟨_, rfl, hOF _ _ HO6.out, HG.out, HX.out.1, HX.out.2, ⟨⟨_, dsr, HK5.out.mod hMF (fun e => by have := hy.2.2 q hy.2.1; omega), HR6.out.mod hMF (fun g hg e => by have := HR5O.out g hg; have := hy.2.2 gb hy.1; omega), H3.out, fun g hg => (HR5O.out g hg) ▸ hy.1, fun x hx => ⟨hOF _ _ (H56.out x hx).1, (H56.out x hx).2⟩⟩, hy.2.1, fun i hi => by have := hy.2.2 i hi; omega⟩, HMM.out.trans hMF (V := Y) (fun _ _ h => h) (fun i hi e => by omega)⟩
end Go.Proofs.YthiijonmnebjgaaGreat
namespace Go.Proofs.YthiijonmnebjgaaGreat
open Go.RowKit
/-- What is sent again of data, if anything. -/
def oldm (d : Dt) : Ms := od5 d.t d.q d.r d.n d.s d.m
def olD (d : Dt) : Int := olE d.t d.q d.r d.n d.s d.m
def snt (l : List Dt) : List Ms := (l.filter (fun d => olD d == 0)).map oldm
theorem snt_yes {l : List Dt} {d : Dt} (h : olD d = 0) : snt (l ++ [d]) = snt l ++ [oldm d] := by simp [snt, List.filter_append, h]
theorem snt_no {l : List Dt} {d : Dt} (h : ¬ olD d = 0) : snt (l ++ [d]) = snt l := by simp [snt, List.filter_append, h]
theorem oldm_len {d : Dt} (h : olD d = 0) : (oldm d).body.length ≤ 140737488355328 := by
  have : olE d.t d.q d.r d.n d.s d.m = 0 := h
  unfold olE at this
  split at this
  · rename_i hc
    have := (chk_parts hc.2).1
    show (od5 d.t d.q d.r d.n d.s d.m).body.length ≤ _
    omega
  · omega
theorem oldm_rng {d : Dt} (hr : ∀ c ∈ d.m.body, 0 ≤ c ∧ c ≤ 255) : ∀ c ∈ (oldm d).body, 0 ≤ c ∧ c ≤ 255 := pk_rng d.m hr
/-- Old of data, as a call of regain's. -/
theorem Old_d (d : Dt) (v : Value) (w : World) (hs : Sl w v d.m.body) :
    Calls Tryz.prog 33 #[dv d v] w fun e w' => ∃ m v', e = .returned (.tuple #[mvl m v', .int .i64 (olD d)]) ∧ Mod (fun _ => False) w w' ∧ (olD d = 0 → m = oldm d ∧ Own w' v' (oldm d).body ∧ (∀ g, v'.ownBlock = some g → w.heap.size ≤ g)) ∧ (olD d ≠ 0 → m = m0 ∧ v' = .slice none 0 0) := by
  obtain ⟨ao, cap, rfl⟩ := hs.shape
  obtain ⟨dq, dr, dn, ds, dt, k, o, lf, i, p, ps, g, s, st, rs, rr, sq, l⟩ := d
  refine (Old_any dq dr dn ds dt k o lf i p ps g s st rs rr sq ao cap l w hs).mono ?_
  rintro e w' ⟨k', o', lf', i', p', ps', g', s', st', rs', rr', sq', bv', rfl, hm, h0, h1⟩
  by_cases h : olE dt dq dr dn ds ⟨k, o, lf, i, p, ps, g, s, st, rs, rr, sq, l⟩ = 0
  · obtain ⟨⟨e1, e2, e3, e4, e5, e6, e7, e8, e9, e10, e11, e12⟩, ho, hg⟩ := h0 h
    exact ⟨oldm ⟨dq, dr, dn, ds, dt, ⟨k, o, lf, i, p, ps, g, s, st, rs, rr, sq, l⟩⟩, bv', by subst_vars; rfl, hm, fun _ => ⟨rfl, ho, hg⟩, fun hh => absurd h hh⟩
  · obtain ⟨e1, e2, e3, e4, e5, e6, e7, e8, e9, e10, e11, e12, e13⟩ := h1 h
    exact ⟨m0, bv', by subst_vars; rfl, hm, fun hh => absurd hh h, fun _ => ⟨rfl, e13⟩⟩
/-- Behind the append and its store. -/
structure P9 (w wx : World) (q B : Nat) (L : List Ms) : Prop where
  rg : Rg wx q (fun i => i = q ∨ B ≤ i ∧ i < wx.heap.size) L
  md : Mod (fun i => i = q ∨ B ≤ i) w wx
/-- One more in the row, and the slice stored. -/
theorem Rg.put {w w3 w4 : World} {q B : Nat} {v v' u : Value} {ds : List (Ms × Value)} {m : Ms} (h1 : Bk w q 60 #[.bool true, v]) (h2 : RG w 43 13 v ds.length (fm ds)) (h4 : ∀ g, v.ownBlock = some g → B ≤ g) (h5 : ∀ x ∈ ds, Own w x.2 x.1.body ∧ (∀ g, x.2.ownBlock = some g → B ≤ g) ∧ (∀ c ∈ x.1.body, 0 ≤ c ∧ c ≤ 255) ∧ x.1.body.length ≤ 140737488355328) (hq : q < w.heap.size) (hB : B ≤ w.heap.size)
    (hm3 : Mod (fun _ => False) w w3) (ho : Own w u m.body) (hu : ∀ g, u.ownBlock = some g → B ≤ g) (hr : ∀ c ∈ m.body, 0 ≤ c ∧ c ≤ 255) (hb : m.body.length ≤ 140737488355328)
    (hm4 : Mod (fun k => v.ownBlock = some k) w3 w4) (hf : Fr w3 v v') (hR : RG w4 43 13 v' (ds.length + 1) (fm ds ++ mcl m u)) :
    P9 w (w4.setCell ⟨q, 1, none⟩ v') q B (ds.map (·.1) ++ [m]) := by
  have hpv := h1.ne_rm (by decide) h2
  have b4 : Bk w4 q 60 #[.bool true, v] := (h1.mod hm3 (fun h => h)).mod hm4 hpv
  have b5 := b4.set 1 v'
  simp only [List.setIfInBounds_toArray, List.set_cons_zero, List.set_cons_succ] at b5
  have hm5 := (Mod.refl (fun i => i = q) w4).setCell ⟨q, 1, none⟩ v' (.inl rfl)
  have hsz := hm3.size
  have hsz4 := hm4.size
  have hsz5 := hm5.size
  have neu : ∀ x l, Own w3 x l → ∀ g, x.ownBlock = some g → ¬ v.ownBlock = some g := fun x l hx g hg e => by
    obtain ⟨c1, k1⟩ := (h2.mod hm3 (fun _ _ h => h)).kind e
    obtain ⟨c2, k2⟩ := hx.kind hg
    rw [k1] at k2
    simp at k2
  have hR5 := hR.mod hm5 (fun g hg e => b4.ne_rm (by decide) hR (e ▸ hg))
  have own5 : ∀ x l, Own w x l → Own (w4.setCell ⟨q, 1, none⟩ v') x l := fun x l hx => by
    have a3 := hx.mod hm3 (fun _ _ h => h)
    have a4 := a3.mod hm4 (neu _ _ a3)
    exact a4.mod hm5 (fun g hg e => b4.ne_ow (by decide) a4 (e ▸ hg))
  refine ⟨⟨⟨v', ds ++ [(m, u)], b5, ?_, by simp, fun g hg => ?_, fun x hx => ?_⟩, .inl rfl, fun i hi => ?_⟩, ?_⟩
  · rw [List.length_append, fm_app, show fm [(m, u)] = mcl m u by simp [fm]]
    exact hR5
  · have hl := hR.lt g hg
    refine .inr ⟨?_, by omega⟩
    rcases hf g hg with h | h
    · exact h4 g h
    · omega
  · rcases List.mem_append.1 hx with hx | hx
    · obtain ⟨a1, a2, a3⟩ := h5 x hx
      exact ⟨own5 _ _ a1, fun g hg => .inr ⟨a2 g hg, (own5 _ _ a1).lt g hg⟩, a3⟩
    · simp at hx
      subst hx
      exact ⟨own5 _ _ ho, fun g hg => .inr ⟨hu g hg, (own5 _ _ ho).lt g hg⟩, hr, hb⟩
  · rcases hi with hi | hi
    · omega
    · exact hi.2
  · refine (hm3.none.trans hm4 (V := fun i => i = q ∨ B ≤ i) (fun _ _ h => h) (fun i _ e => .inr (h4 i e))).trans hm5 (fun _ _ h => h) (fun i _ e => .inl e)
set_option maxRecDepth 100000 in
set_option maxHeartbeats 8000000 in
theorem New_w {w : World} {p : Nat} {X : Nat → Prop} {J : Int → Option Dt} {a h : Int} {n : Nat} (hw : Wn w p X J a h n) (hn : n ≤ 1000000) (low : Int) : Calls Tryz.prog 7 #[.pointer (some ⟨p, 0, none⟩), .int .i64 low] w fun e w' => ∃ q zs, e = .returned (.tuple #[.pointer (some ⟨q, 0, none⟩), .int .i64 0]) ∧ Ks J low zs ∧ zs.length ≤ n ∧ Rg w' q (fun i => w.heap.size ≤ i ∧ i < w'.heap.size) (snt (zs.map (fun k => (J k).getD d0))) ∧ Mod (fun _ => False) w w' := by
  have HNW := noWin hw
  have hA := (Mod.refl (fun _ => False) w).alloc (.cells #[.bool true, .slice none 0 0] 60)
  have HAB := Above_w (hw.keep hA) hn low
  have hB := Bk.new w #[.bool true, .slice none 0 0] 60
  have HB : Hid (Bk _ _ _ _) := hB
  have HA : Hid (Mod _ _ _) := hA
  clear hA hB hw
  go_enter Tryz.func7, Tryz.ntmps7
  go_wp2_with (first | (go_at_call 31; refine HNW.mono ?_; rintro e w' ⟨rfl, rfl⟩))
  refine HAB.mono ?_
  rintro e w1 ⟨v, ds, zs, rfl, hR, hK, hmap, hl, hm⟩
  obtain ⟨av, cv, rfl⟩ := hR.row.shape
  obtain ⟨q, eq⟩ : ∃ q, q = w'.heap.size := ⟨_, rfl⟩
  have hsz1 := hm.size
  simp at hsz1
  have HB1 : Hid (Bk w1 q 60 #[.bool true, .slice none 0 0]) := eq ▸ HB.out.mod hm (fun h => h)
  have HM1 : Hid (Mod (fun _ => False) w' w1) := HA.out.and hm
  have HQ : Hid (q = w'.heap.size) := eq
  have HQ1 : Hid (q < w1.heap.size) := by show _ < _; omega
  have HRD : Hid (Rd18 w1 (q + 1) (.slice av ds.length cv) ds) := hR.base (by simp; omega)
  rw [← eq]
  have HKS : Hid (Ks J low zs ∧ zs.length ≤ n ∧ ds.map (·.1) = zs.map (fun k => (J k).getD d0)) := ⟨hK, hl, hmap⟩
  have hdl : ds.length ≤ 1000000 := by have := congrArg List.length hmap; simp at this; omega
  have hdlI : (ds.length : Int) ≤ 1000000 := by omega
  clear hR hK hmap hl hm HB HA HAB HNW eq hsz1
  go_wp2_with (fail)
  obtain ⟨B, eB⟩ : ∃ B, B = w1.heap.size := ⟨_, rfl⟩
  have HBQ : Hid (B = w1.heap.size ∧ q < B) := ⟨eB, by have := HQ1.out; omega⟩
  go_loopw [19] (fun i wr => ∃ (j : Nat), i = .int .i64 (j : Int) ∧ j ≤ ds.length ∧ Rg wr q (fun i => i = q ∨ B ≤ i ∧ i < wr.heap.size) (snt ((ds.take j).map (·.1))) ∧ Mod (fun i => i = q) w1 wr) (fun i _ => ds.length - (intOf i).toNat)
  case atStart => exact ⟨0, rfl, Nat.zero_le _, ⟨⟨_, [], HB1.out, RG.nil _ _ _, by simp [snt], by simp [Value.ownBlock], by simp⟩, .inl rfl, fun i hi => by have := HBQ.out; rcases hi with hi | hi <;> omega⟩, Mod.refl _ _⟩
  case round =>
    obtain ⟨j, rfl, hj, hG, hMr⟩ := hrel
    by_cases hlt : j < ds.length
    · have hlt' : (j : Int) < (ds.length : Int) := by omega
      obtain ⟨x, hx⟩ : ∃ x, ds[j]? = some x := ⟨ds[j], List.getElem?_eq_getElem hlt⟩
      have hRDr := HRD.out.mod hMr (fun g hg e => by omega)
      obtain ⟨gb, of, cp, e, hrg⟩ := hRDr.row.range (by omega)
      cases e
      obtain ⟨xo, xn, xr⟩ := hRDr.each x (List.mem_of_getElem? hx)
      obtain ⟨d, u⟩ := x
      simp only at xo xn xr
      obtain ⟨ax, cx, rfl⟩ := xo.shape
      have hra : wr.rangeAt gb (of + j * 18) (dcl d (.slice ax d.m.body.length cx)) := fun t c ht => by
        have := hrg (j * 18 + t) c (fd_get ds j _ hx t c ht)
        rwa [← Nat.add_assoc] at this
      have HX : Hid (ds[j]? = some (d, .slice ax d.m.body.length cx)) := hx
      have hb1 : (0 : Int) ≤ (j : Int) := by omega
      have hjb : (j : Int) + 1 ≤ 1000000 := by omega
      have HLT : Hid (j < ds.length) := hlt
      have HXO : Hid (Own wr (.slice ax d.m.body.length cx) d.m.body ∧ (∀ c ∈ d.m.body, 0 ≤ c ∧ c ≤ 255)) := ⟨xo, xr⟩
      have HG : Hid (Rg wr q (fun i => i = q ∨ B ≤ i ∧ i < wr.heap.size) (snt ((ds.take j).map (·.1)))) := hG
      have HMR : Hid (Mod (fun i => i = q) w1 wr) := hMr
      clear hrg hx xo xn xr hRDr hG hlt hMr
      go_upto_region 7 with (first | (refine wpList_load_at info18 Tryz.underlying45 rfl rfl _ rfl gb (of + j * 18) rfl _ hra rfl ?_; unfold dcl; simp only [Act.put, List.setIfInBounds_toArray, List.set_cons_succ, List.set_cons_zero]) | (refine wpList_store_row info18 rfl rfl _ _ rfl wr.heap.size #[.int .i64 d.q, .int .i64 d.r, .int .i64 d.n, .int .i64 d.s, .int .i64 d.t, .int .i64 d.m.kind, .int .i64 d.m.origin, .int .i64 d.m.life, .int .i64 d.m.id, .int .i64 d.m.part, .int .i64 d.m.parts, .int .i64 d.m.groups, .bool d.m.safe, .int .i64 d.m.st, .int .i64 d.m.rs, .int .i64 d.m.rr, .int .i64 d.m.sq, (.slice ax d.m.body.length cx)] rfl rfl (Bk.new wr _ _) rfl rfl rfl ?_; intro w2 hB2 hm2))
      have HM2 : Hid (Mod (fun _ => False) wr w2) := ((Mod.refl (fun _ => False) wr).alloc _).trans hm2 (V := fun _ => False) (fun _ _ h => h) (fun i hi e => by omega)
      have HC := Old_d d _ w2 ((HXO.out.1.sl HXO.out.2).mod HM2.out (fun _ _ h => h))
      unfold dv mvl at HC
      clear hra hm2
      go_wp2_with (refine wpList_load_row info18 Tryz.underlying45 rfl rfl _ rfl wr.heap.size rfl hB2 rfl ?_; simp only [Act.put, List.setIfInBounds_toArray, List.set_cons_succ, List.set_cons_zero])
      refine HC.mono ?_
      rintro e w3 ⟨m, v3, rfl, hm3, hy, hn⟩
      clear HC hB2
      obtain ⟨z, hz⟩ : ∃ z, olD d = z := ⟨_, rfl⟩
      have HZ : Hid (olD d = z) := hz
      rw [hz] at hy hn ⊢
      clear hz
      have HM3 : Hid (Mod (fun _ => False) wr w3) := HM2.out.and hm3
      have HYN : Hid (z = 0 → m = oldm d ∧ Own w3 v3 (oldm d).body ∧ (∀ g, v3.ownBlock = some g → w2.heap.size ≤ g)) := hy
      obtain ⟨ao, nn, cc, rfl⟩ : ∃ ao nn cc, v3 = .slice ao nn cc := by
        by_cases h0 : z = 0
        · obtain ⟨_, ho, _⟩ := hy h0
          obtain ⟨a1, c1, rfl⟩ := ho.shape
          exact ⟨_, _, _, rfl⟩
        · obtain ⟨_, rfl⟩ := hn h0
          exact ⟨_, _, _, rfl⟩
      clear hy hn hm3
      go_upto_region 8 with (refine wpList_store_row infoM rfl rfl _ _ rfl w3.heap.size #[.int .i64 m.kind, .int .i64 m.origin, .int .i64 m.life, .int .i64 m.id, .int .i64 m.part, .int .i64 m.parts, .int .i64 m.groups, .bool m.safe, .int .i64 m.st, .int .i64 m.rs, .int .i64 m.rr, .int .i64 m.sq, (.slice ao nn cc)] rfl rfl (Bk.new w3 _ _) rfl rfl rfl ?_; intro w4 hB4 hm4)
      have HM4 : Hid (Mod (fun _ => False) wr w4) := HM3.out.and (((Mod.refl (fun _ => False) w3).alloc _).trans hm4 (V := fun _ => False) (fun _ _ h => h) (fun i hi e => by omega))
      have HM34 : Hid (Mod (fun _ => False) w3 w4) := ((Mod.refl (fun _ => False) w3).alloc _).trans hm4 (V := fun _ => False) (fun _ _ h => h) (fun i hi e => by omega)
      clear hm4
      by_cases h0 : z = 0
      · obtain ⟨em, hown, hnew⟩ := HYN.out h0
        subst h0
        obtain ⟨mb, emb⟩ : ∃ mb, mb = w3.heap.size := ⟨_, rfl⟩
        rw [← emb] at hB4 ⊢
        clear emb
        have k0 : w4.cell? ⟨mb, 0, none⟩ = some (.int .i64 m.kind) := hB4.cellv (j := 0) rfl
        have k1 : w4.cell? ⟨mb, 1, none⟩ = some (.int .i64 m.origin) := hB4.cellv (j := 1) rfl
        have k2 : w4.cell? ⟨mb, 2, none⟩ = some (.int .i64 m.life) := hB4.cellv (j := 2) rfl
        have k3 : w4.cell? ⟨mb, 3, none⟩ = some (.int .i64 m.id) := hB4.cellv (j := 3) rfl
        have k4 : w4.cell? ⟨mb, 4, none⟩ = some (.int .i64 m.part) := hB4.cellv (j := 4) rfl
        have k5 : w4.cell? ⟨mb, 5, none⟩ = some (.int .i64 m.parts) := hB4.cellv (j := 5) rfl
        have k6 : w4.cell? ⟨mb, 6, none⟩ = some (.int .i64 m.groups) := hB4.cellv (j := 6) rfl
        have k7 : w4.cell? ⟨mb, 7, none⟩ = some (.bool m.safe) := hB4.cellv (j := 7) rfl
        have k8 : w4.cell? ⟨mb, 8, none⟩ = some (.int .i64 m.st) := hB4.cellv (j := 8) rfl
        have k9 : w4.cell? ⟨mb, 9, none⟩ = some (.int .i64 m.rs) := hB4.cellv (j := 9) rfl
        have k10 : w4.cell? ⟨mb, 10, none⟩ = some (.int .i64 m.rr) := hB4.cellv (j := 10) rfl
        have k11 : w4.cell? ⟨mb, 11, none⟩ = some (.int .i64 m.sq) := hB4.cellv (j := 11) rfl
        have k12 : w4.cell? ⟨mb, 12, none⟩ = some (.slice ao nn cc) := hB4.cellv (j := 12) rfl
        have hG4 := HG.out.keep HM4.out
        obtain ⟨v, dr, h1, h2, h3, h4, h5⟩ := hG4.ex
        obtain ⟨al, cl, rfl⟩ := h2.shape
        have c1 : w4.cell? ⟨q, 1, none⟩ = some (.slice al dr.length cl) := h1.cellv (j := 1) rfl
        have hA3 := (Mod.refl (fun _ => False) w4).alloc (.cells (mcl m (.slice ao nn cc)).toArray 43)
        have hdr := (Mod.refl (fun _ => False) (w4.alloc (.cells (mcl m (.slice ao nn cc)).toArray 43))).drew
        have hSG : SG (w4.alloc (.cells (mcl m (.slice ao nn cc)).toArray 43)).drew 13 (.slice (some ⟨w4.heap.size, 0, none⟩) 1 1) 1 (mcl m (.slice ao nn cc)) := SG.lit w4.drew 43 (mcl m (.slice ao nn cc)) (mcl_one m ao _ cc)
        have hR3 := (h2.mod hA3 (fun _ _ h => h)).mod hdr (fun _ _ h => h)
        have c1a : (w4.alloc (.cells (mcl m (.slice ao nn cc)).toArray 43)).cell? ⟨q, 1, none⟩ = some (.slice al dr.length cl) := hA3.cell c1 (fun h => h)
        have c1b := hdr.cell c1a (fun h => h)
        have HDA : Hid (Mod (fun _ => False) w4 (w4.alloc (.cells (mcl m (.slice ao nn cc)).toArray 43)).drew) := hA3.and hdr
        have HKA : Hid (Bk (w4.alloc (.cells (mcl m (.slice ao nn cc)).toArray 43)).drew q 60 #[.bool true, .slice al dr.length cl]) := (h1.mod hA3 (fun h => h)).mod hdr (fun h => h)
        have HC1B : Hid ((w4.alloc (.cells (mcl m (.slice ao nn cc)).toArray 43)).drew.cell? ⟨q, 1, none⟩ = some (.slice al dr.length cl)) := c1b
        clear c1b
        have hqn : ¬ (Value.slice al dr.length cl).ownBlock = some q := h1.ne_rm (by decide) h2
        have HQN : Hid (¬ (Value.slice al dr.length cl).ownBlock = some q) := hqn
        have H1 : Hid (Bk w4 q 60 #[.bool true, .slice al dr.length cl]) := h1
        have H2 : Hid (RG w4 43 13 (.slice al dr.length cl) dr.length (fm dr)) := h2
        have H3 : Hid (dr.map (·.1) = snt ((ds.take j).map (·.1))) := h3
        have hszr := HM4.out.size
        have hsz34 := HM34.out.size
        have hsz2 := HM2.out.size
        have hMRz := HMR.out.size
        have hbq := HBQ.out
        have H4 : Hid (∀ g, (Value.slice al dr.length cl).ownBlock = some g → B ≤ g) := fun g hg => by
          rcases h4 g hg with h | h
          · exact absurd (h ▸ hg) hqn
          · exact h.1
        have H5 : Hid (∀ x ∈ dr, Own w4 x.2 x.1.body ∧ (∀ g, x.2.ownBlock = some g → B ≤ g) ∧ (∀ c ∈ x.1.body, 0 ≤ c ∧ c ≤ 255) ∧ x.1.body.length ≤ 140737488355328) := fun x hx => ⟨(h5 x hx).1, fun g hg => by
          rcases (h5 x hx).2.1 g hg with h | h
          · exact absurd (h ▸ hg) (h1.ne_ow (by decide) (h5 x hx).1)
          · exact h.1, (h5 x hx).2.2⟩
        have HQB : Hid (q < w4.heap.size ∧ B ≤ w4.heap.size) := ⟨by omega, by omega⟩
        have HOU : Hid (Own w4 (.slice ao nn cc) (oldm d).body ∧ (∀ g, (Value.slice ao nn cc).ownBlock = some g → B ≤ g) ∧ (∀ c ∈ (oldm d).body, 0 ≤ c ∧ c ≤ 255) ∧ (oldm d).body.length ≤ 140737488355328) := ⟨hown.mod HM34.out (fun _ _ h => h), fun g hg => by have := hnew g hg; omega, oldm_rng HXO.out.2, oldm_len HZ.out⟩
        have HBN : Hid ((dr.length + 1) * 120 ≤ 140737488355328 ∧ dr.length + 1 ≤ 9223372036854775807) := by
          have h3l := congrArg List.length h3
          have : (snt ((ds.take j).map (·.1))).length ≤ j := by
            unfold snt
            rw [List.length_map]
            refine Nat.le_trans (List.length_filter_le _ _) ?_
            rw [List.length_map]
            exact List.length_take_le _ _
          simp only [List.length_map] at h3l
          constructor <;> omega
        have HTK : Hid (snt ((ds.take (j + 1)).map (·.1)) = snt ((ds.take j).map (·.1)) ++ [m]) := by
          show _ = _
          rw [List.take_add_one, HX.out, List.map_append, em]
          exact snt_yes HZ.out
        have HEM : Hid (m = oldm d) := em
        clear h1 h2 h3 h4 h5 hG4 hown hnew hB4 hqn hszr hsz34 hsz2 hMRz hbq em hdr
        clear hA3
        unfold mcl at hSG hR3 c1a
        go_upto_region 9 with (fail)
        go_region_law (refine step_appG elM (by rfl) _ _ (by rfl) _ _ dr.length 1 (fm dr) _ (by rfl) (by rfl) hR3 hSG HBN.out.1 HBN.out.2 (dr.length + 1) rfl ?_; intro ax4 cx4 w5 hRG5 hm5 hf5; have HF5 : Hid (Fr _ _ _) := hf5; clear hf5; have c15 : w5.cell? ⟨q, 1, none⟩ = some (.slice al dr.length cl) := hm5.cell HC1B.out HQN.out; have f15 : w5.frozen? ⟨q, 1, none⟩ = false := (HKA.out.mod hm5 HQN.out).frz 1)
        all_goals have hP9 := Rg.put H1.out H2.out H4.out H5.out HQB.out.1 HQB.out.2 HDA.out (HEM.out ▸ HOU.out.1) HOU.out.2.1 (HEM.out ▸ HOU.out.2.2.1) (HEM.out ▸ HOU.out.2.2.2) hm5 HF5.out hRG5
        all_goals have HREL : Hid (Rg (w5.setCell ⟨q, 1, none⟩ (.slice ax4 (dr.length + 1) cx4)) q (fun i => i = q ∨ B ≤ i ∧ i < (w5.setCell ⟨q, 1, none⟩ (.slice ax4 (dr.length + 1) cx4)).heap.size) (snt ((ds.take (j + 1)).map (·.1))) ∧ Mod (fun i => i = q) w1 (w5.setCell ⟨q, 1, none⟩ (.slice ax4 (dr.length + 1) cx4))) := ⟨by rw [HTK.out, ← H3.out]; exact hP9.rg, (HMR.out.trans HM4.out (V := fun i => i = q) (fun _ _ h => h) (fun _ _ h => h.elim)).trans hP9.md (fun _ _ h => h) (fun g hg e => by have := HBQ.out; rcases e with e | e; exact e; omega)⟩
        all_goals clear hP9 hm5 hRG5 HF5
        all_goals go_wp2
        all_goals generalize w5.setCell ⟨q, 1, none⟩ (.slice ax4 (dr.length + 1) cx4) = w6 at *
        all_goals go_roundw
        all_goals first
          | exact ⟨j + 1, by go_num, HLT.out, HREL.out.1, HREL.out.2⟩
          | (have := HLT.out; simp [intOf]; omega)
      · have HTK : Hid (snt ((ds.take (j + 1)).map (·.1)) = snt ((ds.take j).map (·.1))) := by
          show _ = _
          rw [List.take_add_one, HX.out, List.map_append]
          exact snt_no (by rw [HZ.out]; exact h0)
        have HREL : Hid (Rg w4 q (fun i => i = q ∨ B ≤ i ∧ i < w4.heap.size) (snt ((ds.take (j + 1)).map (·.1))) ∧ Mod (fun i => i = q) w1 w4) := by
          have hs := HM4.out.size
          refine ⟨?_, HMR.out.trans HM4.out (V := fun i => i = q) (fun _ _ h => h) (fun _ _ h => h.elim)⟩
          rw [HTK.out]
          refine (HG.out.keep HM4.out).more (fun i hi => ?_) (fun i hi => ?_)
          · rcases hi with hi | hi
            · exact .inl hi
            · exact .inr ⟨hi.1, by omega⟩
          · have hb := HBQ.out
            have := HMR.out.size
            rcases hi with hi | hi <;> omega
        have hb0 : (z == 0) = false := by simp [h0]
        have hbd : decide (z = 0) = false := by simp [h0]
        clear hB4 h0
        go_wp2
        go_roundw
        case rel => exact ⟨j + 1, by go_num, HLT.out, HREL.out.1, HREL.out.2⟩
        case measure =>
          have := HLT.out
          simp [intOf]
          omega
    · have HE : Hid (j = ds.length) := by show _ = _; omega
      go_wp2
      go_ret2
      have hk := HKS.out
      have hb := HBQ.out
      have hs := hMr.size
      have h1s := HM1.out.size
      refine ⟨q, zs, rfl, hk.1, hk.2.1, ?_, HM1.out.trans hMr (V := fun _ => False) (fun _ _ h => h) (fun i hi e => by have := HQ.out; omega)⟩
      rw [← hk.2.2, show ds.map (·.1) = (ds.take j).map (·.1) by rw [HE.out, List.take_length]]
      exact hG.more (fun i hi => by have := HQ.out; rcases hi with hi | hi <;> omega) (fun i hi => hi.2)
end Go.Proofs.YthiijonmnebjgaaGreat
namespace Go.Proofs.YthiijonmnebjgaaGreat
open Go.RowKit
theorem exR {o : Oper} {w : World} {ρ : Operand → Value} {x y : Operand} (ho : o.op = .binOp .neq 38 x y 38) {q r q' r' : Int} (hx : ρ x = .agg #[.int .i64 q, .int .i64 r]) (hy : ρ y = .agg #[.int .i64 q', .int .i64 r']) {b : Bool} (hb : (!(decide (q = q') && decide (r = r'))) = b) : (execOp ρ o).run Tryz.prog w = .ok (.value (.bool b)) w := by
  subst hb
  unfold execOp
  rw [ho]
  simp only [hx, hy]
  by_cases h2 : q = q' <;> by_cases h3 : r = r' <;> simp [go_sem, h2, h3]
/-- The data that a message was. -/
def inD (m : Ms) : Dt := ⟨m.rs, m.rr, m.sq, m.id, m.st, prM m.body⟩
/-- It is of that configuration. -/
def tkR (m : Ms) (oq oR : Int) : Bool := decide (m.rs = oq) && decide (m.rr = oR)
def tkY (m : Ms) (oq oR : Int) : Bool := inE m == 0 && tkR m oq oR
def tkB (J : Int → Option Dt) (m : Ms) (oq oR : Int) : Bool := tkY m oq oR && pF J (inD m)
def tkE (m : Ms) (oq oR : Int) : Int := if inE m ≠ 0 then inE m else if tkR m oq oR then pE (inD m) else 0
def tkJ (J : Int → Option Dt) (m : Ms) (oq oR : Int) : Int → Option Dt := if tkY m oq oR then pJ J (inD m) else J
def tkH (J : Int → Option Dt) (h : Int) (m : Ms) (oq oR : Int) : Int := if tkY m oq oR then pH J h (inD m) else h
theorem prM_rng {b : List Int} (hr : ∀ c ∈ b, 0 ≤ c ∧ c ≤ 255) (h : unE b = 0) : ∀ c ∈ (prM b).body, 0 ≤ c ∧ c ≤ 255 := fun c hc => by
  have e := (pk_un hr h).1
  refine hr c ?_
  rw [← e]
  unfold pk
  exact List.mem_append_right _ (List.mem_append_right _ (List.mem_append_right _ hc))
theorem inE_body {m : Ms} (hr : ∀ c ∈ m.body, 0 ≤ c ∧ c ≤ 255) (h : inE m = 0) : (prM m.body).body.length ≤ 140737488355328 ∧ ∀ c ∈ (prM m.body).body, 0 ≤ c ∧ c ≤ 255 := by
  unfold inE at h
  split at h
  · rename_i hh
    obtain ⟨h1, h2, h3⟩ := chk_parts hh.2
    rw [kd, if_pos hh.1, od] at h3
    simp only [Bool.and_eq_true] at h3
    have hu : unE m.body = 0 := by
      have := h3.2
      rw [in0_eq] at this
      simp only [Bool.and_eq_true, beq_iff_eq] at this
      exact this.1
    have := (chk_parts (pk_un hr hu).2).1
    exact ⟨by omega, prM_rng hr hu⟩
  · omega
theorem Wn.le {w : World} {p : Nat} {X : Nat → Prop} {J : Int → Option Dt} {a h : Int} {n n' : Nat} (hw : Wn w p X J a h n) (hn : n ≤ n') : Wn w p X J a h n' := by
  obtain ⟨⟨⟨B, V, N, h1, h2, h3, h4⟩, px, lt⟩, wp⟩ := hw
  exact ⟨⟨⟨B, V, N, h1, h2, Nat.le_trans h3 hn, h4⟩, px, lt⟩, wp⟩
theorem Gone.self (w : World) (X : Nat → Prop) : Gone w X X := fun _ h => .inl h
set_option maxRecDepth 100000 in
set_option maxHeartbeats 8000000 in
theorem Take_w {w : World} {p : Nat} {X : Nat → Prop} {J : Int → Option Dt} {a h : Int} {n : Nat} (hw : Wn w p X J a h n) (oq oR : Int) (m : Ms) (v : Value) (hs : Sl w v m.body) (hN : n < 1000000000000) : Calls Tryz.prog 17 #[.pointer (some ⟨p, 0, none⟩), .agg #[.int .i64 oq, .int .i64 oR], mvl m v] w fun e w' => ∃ X' a', e = .returned (.tuple #[.bool (tkB J m oq oR), .int .i64 (tkE m oq oR)]) ∧ Wn w' p X' (tkJ J m oq oR) a' (tkH J h m oq oR) (n + 1) ∧ a ≤ a' ∧ Mod X w w' ∧ Gone w X X' := by
  obtain ⟨ao, cap, rfl⟩ := hs.shape
  obtain ⟨k, o, lf, i, pt, ps, g, s, st, rs, rr, sq, l⟩ := m
  simp only at hs ⊢
  have hA := ((Mod.refl (fun _ => False) w).alloc (.cells #[.int .i64 oq, .int .i64 oR] 38)).alloc (.cells #[.int .i64 k, .int .i64 o, .int .i64 lf, .int .i64 i, .int .i64 pt, .int .i64 ps, .int .i64 g, .bool s, .int .i64 st, .int .i64 rs, .int .i64 rr, .int .i64 sq, .slice ao l.length cap] 43)
  have HNW := noWin (hw.keep hA)
  have HI := Inner_any k o lf i pt ps g s st rs rr sq ao cap l _ (hs.mod hA (fun _ _ h => h))
  have hB1 := (Bk.new w #[.int .i64 oq, .int .i64 oR] 38).mod ((Mod.refl (fun _ => False) _).alloc (.cells #[.int .i64 k, .int .i64 o, .int .i64 lf, .int .i64 i, .int .i64 pt, .int .i64 ps, .int .i64 g, .bool s, .int .i64 st, .int .i64 rs, .int .i64 rr, .int .i64 sq, .slice ao l.length cap] 43)) (fun h => h)
  have hB2 := Bk.new2 w (.cells #[.int .i64 oq, .int .i64 oR] 38) #[.int .i64 k, .int .i64 o, .int .i64 lf, .int .i64 i, .int .i64 pt, .int .i64 ps, .int .i64 g, .bool s, .int .i64 st, .int .i64 rs, .int .i64 rr, .int .i64 sq, .slice ao l.length cap] 43
  have HA : Hid (Mod _ _ _) := hA
  have HW : Hid (Wn w p X J a h n) := hw
  have HB1 : Hid (Bk _ _ _ _) := hB1
  have HRL : Hid (∀ c ∈ l, 0 ≤ c ∧ c ≤ 255) := hs.rng
  have HNN : Hid (n < 1000000000000) := hN
  unfold mvl
  clear hA hw hB1 hs hN
  go_enter Tryz.func17, Tryz.ntmps17
  go_wp2_with (first | (go_at_call 31; refine HNW.mono ?_; rintro e w' ⟨rfl, rfl⟩) | (refine wpList_load_row infoM Tryz.underlying43 rfl rfl _ rfl (w.heap.size + 1) rfl hB2 rfl ?_; simp only [Act.put, List.setIfInBounds_toArray, List.set_cons_succ, List.set_cons_zero]))
  refine HI.mono ?_
  rintro e w3 ⟨dq, dr, dn, ds, dt, k', o', lf', i', p', ps', g', s', st', rs', rr', sq', bv, rfl, hm, hy, hn⟩
  have HM3 : Hid (Mod (fun _ => False) w w3) := HA.out.and hm
  have HB3 : Hid (Bk w3 w.heap.size 38 #[.int .i64 oq, .int .i64 oR]) := HB1.out.mod hm (fun h => h)
  have HSZ : Hid (w.heap.size + 2 ≤ w3.heap.size) := by have := hm.size; simp at this; exact this
  by_cases hz : inE ⟨k, o, lf, i, pt, ps, g, s, st, rs, rr, sq, l⟩ = 0
  · obtain ⟨⟨E1, E2, E3, E4, E5⟩, eM, ho, hg⟩ := hy hz
    replace E1 := E1.symm
    replace E2 := E2.symm
    replace E3 := E3.symm
    replace E4 := E4.symm
    replace E5 := E5.symm
    subst E1 E2 E3 E4 E5
    obtain ⟨hbl, hbr⟩ := inE_body (m := ⟨k, o, lf, i, pt, ps, g, s, st, rs, rr, sq, l⟩) HRL.out hz
    simp only at hbl hbr
    obtain ⟨av, cv, rfl⟩ := ho.shape
    have e1 := congrArg Ms.kind eM
    have e2 := congrArg Ms.origin eM
    have e3 := congrArg Ms.life eM
    have e4 := congrArg Ms.id eM
    have e5 := congrArg Ms.part eM
    have e6 := congrArg Ms.parts eM
    have e7 := congrArg Ms.groups eM
    have e8 := congrArg Ms.safe eM
    have e9 := congrArg Ms.st eM
    have e10 := congrArg Ms.rs eM
    have e11 := congrArg Ms.rr eM
    have e12 := congrArg Ms.sq eM
    simp only at e1 e2 e3 e4 e5 e6 e7 e8 e9 e10 e11 e12
    subst e1 e2 e3 e4 e5 e6 e7 e8 e9 e10 e11 e12
    have HZ : Hid (inE ⟨k, o, lf, i, pt, ps, g, s, st, rs, rr, sq, l⟩ = 0) := hz
    rw [hz]
    have HOW : Hid (Own w3 (.slice av (prM l).body.length cv) (prM l).body ∧ (prM l).body.length ≤ 140737488355328 ∧ (∀ c ∈ (prM l).body, 0 ≤ c ∧ c ≤ 255)) := ⟨ho, hbl, hbr⟩
    clear hz hy hn eM ho hg hbl hbr hm HI HNW hB2
    go_upto_region 4 with (refine wpList_store_row info18 rfl rfl _ _ rfl w3.heap.size #[.int .i64 rs, .int .i64 rr, .int .i64 sq, .int .i64 i, .int .i64 st, .int .i64 (prM l).kind, .int .i64 (prM l).origin, .int .i64 (prM l).life, .int .i64 (prM l).id, .int .i64 (prM l).part, .int .i64 (prM l).parts, .int .i64 (prM l).groups, .bool (prM l).safe, .int .i64 (prM l).st, .int .i64 (prM l).rs, .int .i64 (prM l).rr, .int .i64 (prM l).sq, .slice av (prM l).body.length cv] rfl rfl (Bk.new w3 _ _) rfl rfl rfl ?_; intro w4 hB4 hm4)
    have HM34 : Hid (Mod (fun _ => False) w3 w4) := ((Mod.refl (fun _ => False) w3).alloc _).trans hm4 (V := fun _ => False) (fun _ _ h => h) (fun i hi e => by omega)
    have HM4 : Hid (Mod (fun _ => False) w w4) := HM3.out.and HM34.out
    have hB34 := HB3.out.mod HM34.out (fun h => h)
    have q0 : w4.cell? ⟨w.heap.size, 0, none⟩ = some (.int .i64 oq) := hB34.cellv (j := 0) rfl
    have q1 : w4.cell? ⟨w.heap.size, 1, none⟩ = some (.int .i64 oR) := hB34.cellv (j := 1) rfl
    obtain ⟨db, edb⟩ : ∃ db, db = w3.heap.size := ⟨_, rfl⟩
    rw [← edb] at hB4 ⊢
    have d0' : w4.cell? ⟨db, 0, none⟩ = some (.int .i64 rs) := hB4.cellv (j := 0) rfl
    have d1' : w4.cell? ⟨db, 1, none⟩ = some (.int .i64 rr) := hB4.cellv (j := 1) rfl
    have HB4 : Hid (Bk _ _ _ _) := hB4
    clear hm4 hB34 hB4 edb
    obtain ⟨b, hb⟩ : ∃ b, (!(decide (rs = oq) && decide (rr = oR))) = b := ⟨_, rfl⟩
    have HBB : Hid ((!(decide (rs = oq) && decide (rr = oR))) = b) := hb
    clear hb
    cases b with
    | true =>
      have HR : Hid (tkR ⟨k, o, lf, i, pt, ps, g, s, st, rs, rr, sq, l⟩ oq oR = false) := by
        show _ = _
        have := HBB.out
        unfold tkR
        cases h1 : (decide (rs = oq) && decide (rr = oR)) with
        | false => rfl
        | true => rw [h1] at this; cases this
      go_wp2_with (refine wpList_val (by rfl) (exR rfl rfl rfl HBB.out) ?_; simp only [Act.put, List.setIfInBounds_toArray, List.set_cons_succ, List.set_cons_zero])
      go_ret2
      refine ⟨X, a, ?_, ?_, Int.le_refl _, HM4.out.none, Gone.self _ _⟩
      · simp [tkB, tkE, tkY, HZ.out, HR.out]
      · simp only [tkJ, tkH, tkY, HR.out, Bool.and_false, Bool.false_eq_true, if_false]
        exact (HW.out.keep HM4.out).le (Nat.le_succ _)
    | false =>
      have HR : Hid (tkR ⟨k, o, lf, i, pt, ps, g, s, st, rs, rr, sq, l⟩ oq oR = true) := by
        show _ = _
        have := HBB.out
        simpa [tkR] using this
      have HP := Put_any (HW.out.keep HM4.out) (inD ⟨k, o, lf, i, pt, ps, g, s, st, rs, rr, sq, l⟩) (.slice av (prM l).body.length cv) ((HOW.out.1.sl HOW.out.2.2).mod HM34.out (fun _ _ h => h)) HOW.out.2.1 HNN.out
      rw [show dv (inD ⟨k, o, lf, i, pt, ps, g, s, st, rs, rr, sq, l⟩) (.slice av (prM l).body.length cv) = .agg #[.int .i64 rs, .int .i64 rr, .int .i64 sq, .int .i64 i, .int .i64 st, .int .i64 (prM l).kind, .int .i64 (prM l).origin, .int .i64 (prM l).life, .int .i64 (prM l).id, .int .i64 (prM l).part, .int .i64 (prM l).parts, .int .i64 (prM l).groups, .bool (prM l).safe, .int .i64 (prM l).st, .int .i64 (prM l).rs, .int .i64 (prM l).rr, .int .i64 (prM l).sq, .slice av (prM l).body.length cv] from rfl] at HP
      have hB4 := HB4.out
      go_wp2_with (first | (refine wpList_val (by rfl) (exR rfl rfl rfl HBB.out) ?_; simp only [Act.put, List.setIfInBounds_toArray, List.set_cons_succ, List.set_cons_zero]) | (refine wpList_load_row info18 Tryz.underlying45 rfl rfl _ rfl db rfl hB4 rfl ?_; simp only [Act.put, List.setIfInBounds_toArray, List.set_cons_succ, List.set_cons_zero]))
      refine HP.mono ?_
      rintro e w5 ⟨X', a', rfl, hw5, ha, hm5, hgo⟩
      have HE : Hid (Wn w5 p X' _ a' _ (n + 1) ∧ a ≤ a' ∧ Mod X w4 w5 ∧ Gone w4 X X') := ⟨hw5, ha, hm5, hgo⟩
      clear hw5 hm5 hgo ha HP hB4
      go_wp2
      go_ret2
      obtain ⟨hw5, ha, hm5, hgo⟩ := HE.out
      refine ⟨X', a', ?_, ?_, ha, HM4.out.none.trans hm5 (V := X) (fun _ _ h => h) (fun _ _ h => h), fun i hi => ?_⟩
      · simp [tkB, tkE, tkY, HZ.out, HR.out]
      · simp only [tkJ, tkH, tkY, HR.out, HZ.out, Bool.and_self, beq_self_eq_true, if_true]
        exact hw5
      · rcases hgo i hi with h | h
        · exact .inl h
        · have := HM4.out.size
          exact .inr (by omega)
  · obtain ⟨rfl, rfl, rfl, rfl, rfl, rfl, rfl, rfl, rfl, rfl, rfl, rfl, rfl, rfl, rfl, rfl, rfl, rfl⟩ := hn hz
    obtain ⟨z, ez⟩ : ∃ z, inE ⟨k, o, lf, i, pt, ps, g, s, st, rs, rr, sq, l⟩ = z := ⟨_, rfl⟩
    have HZ : Hid (inE ⟨k, o, lf, i, pt, ps, g, s, st, rs, rr, sq, l⟩ = z ∧ z ≠ 0) := ⟨ez, ez ▸ hz⟩
    rw [ez]
    have hb1 : (z != 0) = true := by simpa [ez] using hz
    have hb2 : decide (z = 0) = false := by simpa [ez] using hz
    have hb3 : (z == 0) = false := by simpa [ez] using hz
    clear hz ez hy hn hm HI HNW hB2
    go_wp2_with (refine wpList_store_row info18 rfl rfl _ _ rfl w3.heap.size #[.int .i64 0, .int .i64 0, .int .i64 0, .int .i64 0, .int .i64 0, .int .i64 0, .int .i64 0, .int .i64 0, .int .i64 0, .int .i64 0, .int .i64 0, .int .i64 0, .bool false, .int .i64 0, .int .i64 0, .int .i64 0, .int .i64 0, .slice none 0 0] rfl rfl (Bk.new w3 _ _) rfl rfl rfl ?_; intro w4 hB4 hm4)
    go_ret2
    have hM : Mod (fun _ => False) w w4 := (HM3.out.alloc _).trans hm4 (V := fun _ => False) (fun _ _ h => h) (fun i hi e => by have := HM3.out.size; omega)
    have hz := HZ.out
    refine ⟨X, a, ?_, ?_, Int.le_refl _, hM.none, Gone.self _ _⟩
    · simp [tkB, tkE, tkY, hz.1, hz.2]
    · simp only [tkJ, tkH, tkY, hz.1, show (z == 0) = false by simpa using hz.2, Bool.false_and, Bool.false_eq_true, if_false]
      exact (HW.out.keep hM).le (Nat.le_succ _)
end Go.Proofs.YthiijonmnebjgaaGreat
namespace Go.Proofs.YthiijonmnebjgaaGreat
open Go.RowKit
theorem old_any (w : World) : Calls Tryz.prog 26 #[] w fun e w' => e = .returned (.agg #[.int .i64 2, .int .i64 1]) ∧ Mod (fun _ => False) w w' := by
  have hA := (Mod.refl (fun _ => False) w).alloc (.cells #[.int .i64 2, .int .i64 1] 38)
  have hB := Bk.new w #[.int .i64 2, .int .i64 1] 38
  go_enter Tryz.func26, Tryz.ntmps26
  go_wp2
  refine bodyPost_ret (resT (t := 38) (n := 2) (by kernel_rfl) Tryz.underlying38 rfl rfl rfl hB rfl) rfl ?_
  exact ⟨rfl, hA⟩
/-- Data with a number, of a ring. -/
def onR (q r n : Int) : Dt := ⟨q, r, n, 1 + n % 8, n, ⟨1, 1 + n % 8, 1, n, 0, 1, 1, false, 0, 0, 0, 0, [n]⟩⟩
def on20 (n : Int) : Dt := onR 2 1 n
theorem onR_rng {q r n : Int} (h : 1 ≤ n ∧ n ≤ 100) : ∀ c ∈ (onR q r n).m.body, 0 ≤ c ∧ c ≤ 255 := fun c hc => by
  simp only [onR, List.mem_singleton] at hc
  omega
theorem one_any (n : Int) (w : World) (h : 1 ≤ n ∧ n ≤ 100) : Calls Tryz.prog 28 #[.int .i64 n] w fun e w' => ∃ v, e = .returned (dv (on20 n) v) ∧ Own w' v [n] ∧ (∀ g, v.ownBlock = some g → w.heap.size ≤ g) ∧ Mod (fun _ => False) w w' := by
  have ht : n.tmod 8 = n % 8 := Int.tmod_eq_emod_of_nonneg (by omega)
  have hn8 : IntKind.u8.wrap n = n := by rw [show IntKind.u8.wrap n = n % 256 from rfl]; omega
  have h1 : 0 ≤ n % 8 ∧ n % 8 < 8 := by omega
  have hA := (Mod.refl (fun _ => False) w).alloc (.cells #[.int .i64 0, .int .i64 0, .int .i64 0, .int .i64 0, .int .i64 0, .int .i64 0, .int .i64 0, .int .i64 0, .int .i64 0, .int .i64 0, .int .i64 0, .int .i64 0, .bool false, .int .i64 0, .int .i64 0, .int .i64 0, .int .i64 0, .slice none 0 0] 45)
  have HB : Hid (Bk _ _ _ _) := Bk.new w #[.int .i64 0, .int .i64 0, .int .i64 0, .int .i64 0, .int .i64 0, .int .i64 0, .int .i64 0, .int .i64 0, .int .i64 0, .int .i64 0, .int .i64 0, .int .i64 0, .bool false, .int .i64 0, .int .i64 0, .int .i64 0, .int .i64 0, .slice none 0 0] 45
  have HO := old_any (w.alloc (.cells #[.int .i64 0, .int .i64 0, .int .i64 0, .int .i64 0, .int .i64 0, .int .i64 0, .int .i64 0, .int .i64 0, .int .i64 0, .int .i64 0, .int .i64 0, .int .i64 0, .bool false, .int .i64 0, .int .i64 0, .int .i64 0, .int .i64 0, .slice none 0 0] 45))
  have HA : Hid (Mod _ _ _) := hA
  have hw8 : IntKind.i64.wrap ((1 : Int) + n % 8) = 1 + n % 8 := by rw [IntKind.wrap_i64]; omega
  clear hA
  unfold dv on20 onR
  go_enter Tryz.func28, Tryz.ntmps28
  go_wp2_with (fail)
  refine HO.mono ?_
  rintro e w1 ⟨rfl, hm1⟩
  have hL := (Mod.refl (fun _ => False) w1).alloc (.cells (U [n]).toArray 5)
  have hB1 := (HB.out.mod hm1 (fun h => h)).mod hL (fun h => h)
  have hO := Own.lit w1 [n] (by simp [maxLen])
  have HM : Hid (Mod (fun _ => False) w (w1.alloc (.cells (U [n]).toArray 5))) := (HA.out.and hm1).and hL
  have HS : Hid (w.heap.size ≤ w1.heap.size) := by have := (HA.out.and hm1).size; exact this
  have HO1 : Hid (Own _ _ _) := hO
  clear hL hO HO hm1
  unfold U at hB1
  simp only [List.map_cons, List.map_nil] at hB1
  go_wp2_with (refine wpList_store_row info18 rfl rfl _ _ rfl w.heap.size #[.int .i64 2, .int .i64 1, .int .i64 n, .int .i64 (1 + n % 8), .int .i64 n, .int .i64 1, .int .i64 (1 + n % 8), .int .i64 1, .int .i64 n, .int .i64 0, .int .i64 1, .int .i64 1, .bool false, .int .i64 0, .int .i64 0, .int .i64 0, .int .i64 0, .slice (some ⟨w1.heap.size, 0, none⟩) 1 1] rfl rfl hB1 rfl rfl rfl ?_; intro wF hBF hMF)
  refine bodyPost_ret (resT info18 Tryz.underlying45 rfl rfl rfl hBF rfl) rfl ?_
  refine ⟨_, rfl, HO1.out.mod hMF (fun i hi e => hB1.ne_ow (by decide) HO1.out (e ▸ hi)), fun g hg => ?_, HM.out.trans hMF (V := fun _ => False) (fun _ _ h => h) (fun i hi h => by omega)⟩
  simp only [Value.ownBlock, Option.some.injEq] at hg
  subst hg
  exact HS.out
theorem chk_onR {q r n : Int} (h : 1 ≤ n ∧ n ≤ 100) : chk (onR q r n).m = 0 := by
  refine chk_of (by simp [onR]) ?_ ?_
  · have h1 : nd (1 + n % 8) = true := by simp only [nd, decide_eq_true_eq]; omega
    have h2 : nm n = true := by simp only [nm, decide_eq_true_eq]; omega
    simp [hn, onR, h1, h2, ck, cr, show nm 1 = true from rfl, show nm 0 = true from rfl]
  · simp [kd, kd0, tx, onR]
theorem olD_onR {q r n : Int} (hq : isr q r = true) (h : 1 ≤ n ∧ n ≤ 100) : olD (onR q r n) = 0 := by
  have hc := chk_onR (q := q) (r := r) h
  have h1 : nd (1 + n % 8) = true := by simp only [nd, decide_eq_true_eq]; omega
  have h2 : nm n = true := by simp only [nm, decide_eq_true_eq]; omega
  unfold olD olE
  rw [if_pos ⟨hc, (old_chk (onR_rng h) hc).2 ⟨h1, h2, h2, hq, by show (0 : Int) < n; omega, by simp [onR]⟩⟩]
theorem in_old {d : Dt} (h : olD d = 0) : inE (oldm d) = 0 ∧ inD (oldm d) = d := by
  have : olE d.t d.q d.r d.n d.s d.m = 0 := h
  unfold olE at this
  split at this
  · rename_i hc
    refine ⟨?_, ?_⟩
    · unfold inE
      rw [if_pos ⟨rfl, hc.2⟩]
    · show (⟨d.q, d.r, d.n, d.s, d.t, prM (pk d.m)⟩ : Dt) = d
      rw [(un_pk0 hc.1).1]
  · omega
theorem okP_onR {q r n : Int} (hr : cr q r = 0) (h : 1 ≤ n ∧ n ≤ 100) : okP (onR q r n) = true := by
  unfold okP
  simp only [Bool.and_eq_true, beq_iff_eq, decide_eq_true_eq]
  exact ⟨⟨hr, h.1⟩, by show n ≤ _; omega⟩
/-- The windows of this chapter's laws: numbers of one ring. -/
def jOf (q r : Int) (S : Int → Bool) : Int → Option Dt := fun k => if S k then some (onR q r k) else none
def ins (S : Int → Bool) (k : Int) : Int → Bool := fun i => S i || i == k
theorem jOf_some {q r : Int} {S : Int → Bool} {k : Int} : (jOf q r S k).isSome = S k := by unfold jOf; cases S k <;> rfl
theorem jOf_none {q r : Int} : jOf q r (fun _ => false) = fun _ => none := rfl
theorem jOf_ins {q r : Int} {S : Int → Bool} {k : Int} : (if (jOf q r S k).isSome then jOf q r S else upd (jOf q r S) k (some (onR q r k))) = jOf q r (ins S k) := by
  rw [jOf_some]
  funext i
  cases h : S k with
  | true =>
    simp only [if_true, jOf, ins]
    by_cases e : i = k
    · subst e; simp [h]
    · simp [e]
  | false =>
    simp only [Bool.false_eq_true, if_false, jOf, ins, upd]
    by_cases e : i = k
    · subst e; simp
    · simp [e]
theorem pJ_j {q r : Int} {S : Int → Bool} {k : Int} (hr : cr q r = 0) (hk : 1 ≤ k ∧ k ≤ 100) : pF (jOf q r S) (onR q r k) = !S k ∧ pE (onR q r k) = 0 ∧ pJ (jOf q r S) (onR q r k) = jOf q r (ins S k) := by
  have ho := okP_onR hr hk
  have hF : pF (jOf q r S) (onR q r k) = !S k := by
    unfold pF
    rw [ho, show (onR q r k).n = k from rfl, jOf_some]
    rfl
  refine ⟨hF, by rw [pE, ho]; rfl, ?_⟩
  rw [← jOf_ins, pJ, hF, jOf_some]
  cases S k <;> rfl
theorem Put_j {w : World} {p : Nat} {X : Nat → Prop} {q r : Int} {S : Int → Bool} {a h : Int} {n : Nat} (hw : Wn w p X (jOf q r S) a h n) (hr : cr q r = 0) (k : Int) (hk : 1 ≤ k ∧ k ≤ 100) (v : Value) (hv : Sl w v [k]) (hN : n < 1000000000000) :
    Calls Tryz.prog 11 #[.pointer (some ⟨p, 0, none⟩), dv (onR q r k) v] w fun e w' => ∃ X' a', e = .returned (.tuple #[.bool (!S k), .int .i64 0]) ∧ Wn w' p X' (jOf q r (ins S k)) a' (if S k then h else max h k) (n + 1) ∧ Mod X w w' ∧ Gone w X X' := by
  refine (Put_any hw (onR q r k) v hv (by simp [onR]) hN).mono ?_
  rintro e w' ⟨X', a', rfl, h1, _, h3, h4⟩
  obtain ⟨e1, e2, e3⟩ := pJ_j (S := S) hr hk
  rw [e3, show pH (jOf q r S) h (onR q r k) = if S k then h else max h k by rw [pH, e1]; cases S k <;> rfl] at h1
  exact ⟨X', a', by rw [e1, e2], h1, h3, h4⟩
theorem Take_j {w : World} {p : Nat} {X : Nat → Prop} {q r : Int} {S : Int → Bool} {a h : Int} {n : Nat} (hw : Wn w p X (jOf q r S) a h n) (hq : isr q r = true) (hr : cr q r = 0) (k : Int) (hk : 1 ≤ k ∧ k ≤ 100) (oq oR : Int) (v : Value) (hv : Sl w v (oldm (onR q r k)).body) (hN : n < 1000000000000) :
    Calls Tryz.prog 17 #[.pointer (some ⟨p, 0, none⟩), .agg #[.int .i64 oq, .int .i64 oR], mvl (oldm (onR q r k)) v] w fun e w' => ∃ X' a', e = .returned (.tuple #[.bool ((decide (q = oq) && decide (r = oR)) && !S k), .int .i64 0]) ∧ Wn w' p X' (jOf q r (if decide (q = oq) && decide (r = oR) then ins S k else S)) a' (if (decide (q = oq) && decide (r = oR)) && !S k then max h k else h) (n + 1) ∧ Mod X w w' ∧ Gone w X X' := by
  refine (Take_w hw oq oR _ v hv hN).mono ?_
  rintro e w' ⟨X', a', rfl, h1, _, h3, h4⟩
  obtain ⟨i1, i2⟩ := in_old (olD_onR hq hk)
  have hR : tkR (oldm (onR q r k)) oq oR = (decide (q = oq) && decide (r = oR)) := rfl
  obtain ⟨e1, e2, e3⟩ := pJ_j (S := S) hr hk
  have hY : tkY (oldm (onR q r k)) oq oR = (decide (q = oq) && decide (r = oR)) := by rw [tkY, i1, hR]; rfl
  have eB : tkB (jOf q r S) (oldm (onR q r k)) oq oR = ((decide (q = oq) && decide (r = oR)) && !S k) := by rw [tkB, hY, i2, e1]
  have eE : tkE (oldm (onR q r k)) oq oR = 0 := by
    rw [tkE, i1, i2, e2]
    simp
  have eJ : tkJ (jOf q r S) (oldm (onR q r k)) oq oR = jOf q r (if decide (q = oq) && decide (r = oR) then ins S k else S) := by
    rw [tkJ, hY, i2, e3]
    cases decide (q = oq) && decide (r = oR) <;> rfl
  have eH : tkH (jOf q r S) h (oldm (onR q r k)) oq oR = if (decide (q = oq) && decide (r = oR)) && !S k then max h k else h := by
    rw [tkH, hY, i2, pH, e1]
    cases decide (q = oq) && decide (r = oR) <;> cases S k <;> rfl
  rw [eJ, eH] at h1
  exact ⟨X', a', by rw [eB, eE], h1, h3, h4⟩
/-- Numbers above low, rising. -/
structure Kz (S : Int → Bool) (low : Int) (zs : List Int) : Prop where
  up : zs.Pairwise (· < ·)
  mem : ∀ x, x ∈ zs ↔ (low < x ∧ S x = true)
theorem Kz.uniq {S : Int → Bool} {low : Int} {a b : List Int} (ha : Kz S low a) (hb : Kz S low b) : a = b := sorted_eq ha.up hb.up fun x => by rw [ha.mem, hb.mem]
theorem snt_j {q r : Int} (hq : isr q r = true) : ∀ zs : List Int, (∀ k ∈ zs, 1 ≤ k ∧ k ≤ 100) → snt (zs.map (onR q r)) = zs.map (fun k => oldm (onR q r k))
  | [], _ => rfl
  | k :: zs, h => by
    have := snt_j hq zs (fun x hx => h x (List.mem_cons_of_mem _ hx))
    have h0 := olD_onR hq (h k (List.mem_cons_self ..))
    simp only [snt, List.map_cons, List.filter_cons, h0, beq_self_eq_true, if_true] at this ⊢
    rw [this]
theorem New_j {w : World} {p : Nat} {X : Nat → Prop} {q r : Int} {S : Int → Bool} {a h : Int} {n : Nat} (hw : Wn w p X (jOf q r S) a h n) (hq : isr q r = true) (hS : ∀ k, S k = true → 1 ≤ k ∧ k ≤ 100) (hn : n ≤ 1000000) (low : Int) : Calls Tryz.prog 7 #[.pointer (some ⟨p, 0, none⟩), .int .i64 low] w fun e w' => ∃ b zs, e = .returned (.tuple #[.pointer (some ⟨b, 0, none⟩), .int .i64 0]) ∧ Kz S low zs ∧ Rg w' b (fun i => w.heap.size ≤ i ∧ i < w'.heap.size) (zs.map (fun k => oldm (onR q r k))) ∧ Mod (fun _ => False) w w' := by
  refine (New_w hw hn low).mono ?_
  rintro e w' ⟨b, zs, rfl, hk, _, hg, hm⟩
  have hmem : ∀ x, x ∈ zs ↔ (low < x ∧ S x = true) := fun x => by rw [hk.mem, jOf_some]
  have hz : ∀ k ∈ zs, 1 ≤ k ∧ k ≤ 100 := fun k h => hS k ((hmem k).1 h).2
  have he : zs.map (fun k => (jOf q r S k).getD d0) = zs.map (onR q r) := List.map_congr_left fun k h => by
    simp [jOf, ((hmem k).1 h).2]
  rw [he, snt_j hq zs hz] at hg
  exact ⟨b, zs, rfl, ⟨hk.up, hmem⟩, hg, hm⟩
theorem Above_j {w : World} {p : Nat} {X : Nat → Prop} {q r : Int} {S : Int → Bool} {a h : Int} {n : Nat} (hw : Wn w p X (jOf q r S) a h n) (hn : n ≤ 1000000) (low : Int) : Calls Tryz.prog 32 #[.pointer (some ⟨p, 0, none⟩), .int .i64 low] w fun e w' => ∃ v ds zs, e = .returned v ∧ Rd18 w' w.heap.size v ds ∧ Kz S low zs ∧ ds.map (·.1) = zs.map (onR q r) ∧ zs.length ≤ n ∧ Mod (fun _ => False) w w' := by
  refine (Above_w hw hn low).mono ?_
  rintro e w' ⟨v, ds, zs, rfl, hR, hk, hmap, hl, hm⟩
  have hmem : ∀ x, x ∈ zs ↔ (low < x ∧ S x = true) := fun x => by rw [hk.mem, jOf_some]
  have he : zs.map (fun k => (jOf q r S k).getD d0) = zs.map (onR q r) := List.map_congr_left fun k h => by
    simp [jOf, ((hmem k).1 h).2]
  exact ⟨v, ds, zs, rfl, hR, ⟨hk.up, hmem⟩, by rw [hmap, he], hl, hm⟩
end Go.Proofs.YthiijonmnebjgaaGreat
namespace Go.Proofs.YthiijonmnebjgaaGreat
open Go.RowKit
theorem Gone.apart {w : World} {X X' Z : Nat → Prop} (hg : Gone w X X') (hz : ∀ i, Z i → i < w.heap.size) (hd : ∀ i, Z i → ¬ X i) : ∀ i, Z i → ¬ X' i := fun i hi h => by
  rcases hg i h with h | h
  · exact hd i hi h
  · have := hz i hi; omega
def S0 : Int → Bool := fun _ => false
theorem is21 : isr 2 1 = true := rfl
theorem cr21 : cr 2 1 = 0 := rfl
theorem kz24 : Kz (ins (ins (ins S0 1) 2) 4) 1 [2, 4] := ⟨by decide, fun x => by
  simp only [ins, S0, List.mem_cons, List.not_mem_nil, or_false, Bool.false_or, Bool.or_eq_true, beq_iff_eq]
  omega⟩
theorem mc_old {m : Ms} {v : Value} : mvl m v = .agg #[.int .i64 (m).kind, .int .i64 (m).origin, .int .i64 (m).life, .int .i64 (m).id, .int .i64 (m).part, .int .i64 (m).parts, .int .i64 (m).groups, .bool (m).safe, .int .i64 (m).st, .int .i64 (m).rs, .int .i64 (m).rr, .int .i64 (m).sq, v] := rfl
set_option maxRecDepth 100000 in
set_option maxHeartbeats 8000000 in
theorem awake_any (w : World) : Calls Tryz.prog 15 #[] w fun e w' => e = .returned (.bool true) ∧ Mod (fun _ => False) w w' := by
  go_enter Tryz.func15, Tryz.ntmps15
  go_wp2_with (fail)
  refine (wNew w).mono ?_
  rintro e w1 ⟨p, X, rfl, hw1, hX1, hm1⟩
  go_wp2_with (fail)
  refine (wNew w1).mono ?_
  rintro e w2 ⟨p2, Z, rfl, hv2, hZ2, hm2⟩
  have HW2 : Hid (Wn w2 p X (jOf 2 1 S0) 0 0 0) := hw1.keep hm2
  have HV2 : Hid (Wn w2 p2 Z (jOf 2 1 S0) 0 0 0) := hv2
  have HD2 : Hid (∀ i, Z i → ¬ X i) := fun i hi h => by have := hw1.mem.lt i h; have := hZ2 i hi; omega
  have HB2 : Hid (Mod X w w2 ∧ (∀ i, X i → w.heap.size ≤ i) ∧ (∀ i, Z i → w.heap.size ≤ i)) := ⟨(hm1.and hm2).none, hX1, fun i hi => by have := hZ2 i hi; have := hm1.size; omega⟩
  clear hw1 hX1 hm1 hv2 hZ2 hm2
  go_wp2_with (fail)
  refine (one_any 1 _ (by decide)).mono ?_
  rintro e wo0 ⟨v0, rfl, ho, hg, hm⟩
  have hP := Put_j (HW2.out.keep hm) cr21 1 (by decide) v0 (ho.sl (by decide)) (by decide)
  unfold dv at hP
  unfold dv on20
  have HMO : Hid (Mod (fun _ => False) w2 wo0) := hm
  have HVO : Hid (Wn wo0 p2 Z (jOf 2 1 S0) 0 0 0) := HV2.out.keep hm
  clear ho hg hm
  go_wp2_with (fail)
  refine hP.mono ?_
  rintro e wp0 ⟨X1, a0, rfl, hw, hm, hg⟩
  have HWwp0 : Hid (Wn wp0 p X1 (jOf 2 1 (ins S0 1)) a0 _ 1) := hw
  have HVwp0 : Hid (Wn wp0 p2 Z (jOf 2 1 S0) 0 0 0) := HVO.out.mod hm HD2.out
  have HDwp0 : Hid (∀ i, Z i → ¬ X1 i) := hg.apart HVO.out.mem.lt HD2.out
  have HBwp0 : Hid (Mod (fun i => w.heap.size ≤ i) w wp0 ∧ (∀ i, X1 i → w.heap.size ≤ i) ∧ (∀ i, Z i → w.heap.size ≤ i)) := by
    obtain ⟨b1, b2, b3⟩ := HB2.out
    have hs := b1.size
    have hs2 := HMO.out.size
    refine ⟨((b1.mono (fun i _ hi => b2 i hi)).trans HMO.out (V := fun i => w.heap.size ≤ i) (fun _ _ h => h) (fun _ _ h => h.elim)).trans hm (fun _ _ h => h) (fun i _ hi => b2 i hi), fun i hi => ?_, b3⟩
    rcases hg i hi with h | h
    · exact b2 i h
    · omega
  clear hP hw hm hg HVO HMO HW2 HV2 HD2 HB2
  go_wp2_with (fail)
  refine (one_any 2 _ (by decide)).mono ?_
  rintro e wo1 ⟨v1, rfl, ho, hg, hm⟩
  have hP := Put_j (HWwp0.out.keep hm) cr21 2 (by decide) v1 (ho.sl (by decide)) (by decide)
  unfold dv at hP
  unfold dv on20
  have HMO : Hid (Mod (fun _ => False) wp0 wo1) := hm
  have HVO : Hid (Wn wo1 p2 Z (jOf 2 1 S0) 0 0 0) := HVwp0.out.keep hm
  clear ho hg hm
  go_wp2_with (fail)
  refine hP.mono ?_
  rintro e wp1 ⟨X2, a1, rfl, hw, hm, hg⟩
  have HWwp1 : Hid (Wn wp1 p X2 (jOf 2 1 (ins (ins S0 1) 2)) a1 _ 2) := hw
  have HVwp1 : Hid (Wn wp1 p2 Z (jOf 2 1 S0) 0 0 0) := HVO.out.mod hm HDwp0.out
  have HDwp1 : Hid (∀ i, Z i → ¬ X2 i) := hg.apart HVO.out.mem.lt HDwp0.out
  have HBwp1 : Hid (Mod (fun i => w.heap.size ≤ i) w wp1 ∧ (∀ i, X2 i → w.heap.size ≤ i) ∧ (∀ i, Z i → w.heap.size ≤ i)) := by
    obtain ⟨b1, b2, b3⟩ := HBwp0.out
    have hs := b1.size
    have hs2 := HMO.out.size
    refine ⟨((b1.mono (fun i _ hi => hi)).trans HMO.out (V := fun i => w.heap.size ≤ i) (fun _ _ h => h) (fun _ _ h => h.elim)).trans hm (fun _ _ h => h) (fun i _ hi => b2 i hi), fun i hi => ?_, b3⟩
    rcases hg i hi with h | h
    · exact b2 i h
    · omega
  clear hP hw hm hg HVO HMO HWwp0 HVwp0 HDwp0 HBwp0
  go_wp2_with (fail)
  refine (one_any 4 _ (by decide)).mono ?_
  rintro e wo2 ⟨v2, rfl, ho, hg, hm⟩
  have hP := Put_j (HWwp1.out.keep hm) cr21 4 (by decide) v2 (ho.sl (by decide)) (by decide)
  unfold dv at hP
  unfold dv on20
  have HMO : Hid (Mod (fun _ => False) wp1 wo2) := hm
  have HVO : Hid (Wn wo2 p2 Z (jOf 2 1 S0) 0 0 0) := HVwp1.out.keep hm
  clear ho hg hm
  go_wp2_with (fail)
  refine hP.mono ?_
  rintro e wp2 ⟨X3, a2, rfl, hw, hm, hg⟩
  have HWwp2 : Hid (Wn wp2 p X3 (jOf 2 1 (ins (ins (ins S0 1) 2) 4)) a2 _ 3) := hw
  have HVwp2 : Hid (Wn wp2 p2 Z (jOf 2 1 S0) 0 0 0) := HVO.out.mod hm HDwp1.out
  have HDwp2 : Hid (∀ i, Z i → ¬ X3 i) := hg.apart HVO.out.mem.lt HDwp1.out
  have HBwp2 : Hid (Mod (fun i => w.heap.size ≤ i) w wp2 ∧ (∀ i, X3 i → w.heap.size ≤ i) ∧ (∀ i, Z i → w.heap.size ≤ i)) := by
    obtain ⟨b1, b2, b3⟩ := HBwp1.out
    have hs := b1.size
    have hs2 := HMO.out.size
    refine ⟨((b1.mono (fun i _ hi => hi)).trans HMO.out (V := fun i => w.heap.size ≤ i) (fun _ _ h => h) (fun _ _ h => h.elim)).trans hm (fun _ _ h => h) (fun i _ hi => b2 i hi), fun i hi => ?_, b3⟩
    rcases hg i hi with h | h
    · exact b2 i h
    · omega
  clear hP hw hm hg HVO HMO HWwp1 HVwp1 HDwp1 HBwp1
  have HNR := New_j HWwp2.out is21 (fun k hk => by simp only [ins, S0, Bool.false_or, Bool.or_eq_true, beq_iff_eq] at hk; omega) (by decide) 1
  go_wp2_with (fail)
  refine HNR.mono ?_
  rintro e wr ⟨b, zs, rfl, hK, hR, hm⟩
  obtain rfl := hK.uniq kz24
  have hV := HVwp2.out.keep hm
  have HVr : Hid (Wn wr p2 Z (jOf 2 1 S0) 0 0 0) := hV
  have HLr := Left_r hR
  have HRr : Hid (Rg wr b _ [oldm (onR 2 1 2), oldm (onR 2 1 4)]) := hR
  have HYr : Hid (∀ i, Z i → i < wp2.heap.size) := HVwp2.out.mem.lt
  have HZN : Hid (∀ i, wr.heap.size ≤ i → ¬ Z i) := fun i h hi => by have := HVwp2.out.mem.lt i hi; have := hm.size; omega
  have HBr : Hid (Mod (fun i => w.heap.size ≤ i) w wr ∧ (∀ i, Z i → w.heap.size ≤ i) ∧ w.heap.size ≤ wp2.heap.size) := by
    obtain ⟨b1, b2, b3⟩ := HBwp2.out
    exact ⟨b1.trans hm (fun _ _ h => h) (fun _ _ h => h.elim), b3, b1.size⟩
  simp only [List.map_cons, List.map_nil, List.length_cons, List.length_nil] at HLr
  clear HNR hK hR hV hm HVwp2 HDwp2 HBwp2 HWwp2
  go_wp2_with (first | (go_at_call 9; refine HLr.mono ?_; rintro e w' ⟨rfl, e1⟩; replace e1 := e1.symm; subst e1))
  have HN1 := Next_cons HRr.out
  unfold mvl at HN1
  go_wp2_with (fail)
  refine HN1.mono ?_
  rintro e x1 ⟨va, rfl, hoa, hga, hra, -, hR1, hm1⟩
  obtain ⟨aa, ca, rfl⟩ := hoa.shape
  obtain ⟨la, ela⟩ : ∃ la, (oldm (onR 2 1 2)).body.length = la := ⟨_, rfl⟩
  rw [ela] at hoa hga ⊢
  have HLA : Hid ((oldm (onR 2 1 2)).body.length = la) := ela
  clear ela HN1
  obtain ⟨yd, hyd⟩ : ∃ Y : Nat → Prop, Y = (fun i => wp2.heap.size ≤ i ∧ i < wr.heap.size) := ⟨_, rfl⟩
  have HYD : Hid (Mod yd wr x1 ∧ (∀ i, yd i → wp2.heap.size ≤ i ∧ i < wr.heap.size)) := by
    rw [hyd]
    exact ⟨hm1, fun i h => h⟩
  rw [← hyd] at hR1
  have HR1 : Hid (Rg x1 b yd [oldm (onR 2 1 4)]) := hR1
  have HZ1 : Hid (∀ i, Z i → ¬ yd i) := fun i hi h => by have := HYr.out i hi; have := (HYD.out.2 i h).1; omega
  have HV1 : Hid (Wn x1 p2 Z (jOf 2 1 S0) 0 0 0) := HVr.out.mod HYD.out.1 HZ1.out
  have HOA1 : Hid (Own x1 (.slice aa la ca) (oldm (onR 2 1 2)).body ∧ (∀ g, (Value.slice aa la ca).ownBlock = some g → wr.heap.size ≤ g) ∧ (∀ c ∈ (oldm (onR 2 1 2)).body, 0 ≤ c ∧ c ≤ 255)) := ⟨hoa, hga, hra⟩
  clear hoa hga hra hR1 hm1 hyd HRr HVr HYr HLr
  go_upto_region 11 with (refine wpList_store_row infoM rfl rfl _ _ rfl x1.heap.size #[.int .i64 (oldm (onR 2 1 2)).kind, .int .i64 (oldm (onR 2 1 2)).origin, .int .i64 (oldm (onR 2 1 2)).life, .int .i64 (oldm (onR 2 1 2)).id, .int .i64 (oldm (onR 2 1 2)).part, .int .i64 (oldm (onR 2 1 2)).parts, .int .i64 (oldm (onR 2 1 2)).groups, .bool (oldm (onR 2 1 2)).safe, .int .i64 (oldm (onR 2 1 2)).st, .int .i64 (oldm (onR 2 1 2)).rs, .int .i64 (oldm (onR 2 1 2)).rr, .int .i64 (oldm (onR 2 1 2)).sq, .slice aa la ca] rfl rfl (Bk.new x1 _ _) rfl rfl rfl ?_; intro x2 hBA hmA)
  obtain ⟨ba, eba⟩ : ∃ ba, ba = x1.heap.size := ⟨_, rfl⟩
  rw [← eba] at hBA ⊢
  have HMA : Hid (Mod (fun _ => False) x1 x2) := ((Mod.refl (fun _ => False) x1).alloc _).trans hmA (V := fun _ => False) (fun _ _ h => h) (fun i hi e => by omega)
  have HBA2 : Hid (Bk x2 ba 43 #[.int .i64 (oldm (onR 2 1 2)).kind, .int .i64 (oldm (onR 2 1 2)).origin, .int .i64 (oldm (onR 2 1 2)).life, .int .i64 (oldm (onR 2 1 2)).id, .int .i64 (oldm (onR 2 1 2)).part, .int .i64 (oldm (onR 2 1 2)).parts, .int .i64 (oldm (onR 2 1 2)).groups, .bool (oldm (onR 2 1 2)).safe, .int .i64 (oldm (onR 2 1 2)).st, .int .i64 (oldm (onR 2 1 2)).rs, .int .i64 (oldm (onR 2 1 2)).rr, .int .i64 (oldm (onR 2 1 2)).sq, .slice aa la ca]) := hBA
  have HEB : Hid (ba = x1.heap.size) := eba
  have HZA : Hid (¬ Z ba ∧ ∀ g, (Value.slice aa la ca).ownBlock = some g → ¬ Z g) := ⟨HZN.out ba (by have := HYD.out.1.size; omega), fun g hg => HZN.out g (HOA1.out.2.1 g hg)⟩
  have HN2 := Next_cons (HR1.out.keep HMA.out)
  unfold mvl at HN2
  clear hBA hmA eba
  go_wp2_with (fail)
  refine HN2.mono ?_
  rintro e x3 ⟨vb, rfl, hob, hgb, hrb, -, hR2, hm2⟩
  obtain ⟨ab, cb, rfl⟩ := hob.shape
  obtain ⟨lb, elb⟩ : ∃ lb, (oldm (onR 2 1 4)).body.length = lb := ⟨_, rfl⟩
  rw [elb] at hob hgb ⊢
  clear elb HN2
  have HM2 : Hid (Mod yd x2 x3) := hm2
  have HR2 : Hid (Rg x3 b yd []) := hR2
  have hs1 : wr.heap.size ≤ x1.heap.size := HYD.out.1.size
  have HOA3 : Hid (Own x3 (.slice aa la ca) (oldm (onR 2 1 2)).body) := (HOA1.out.1.mod HMA.out (fun _ _ h => h)).mod hm2 (fun g hg h => by have := HOA1.out.2.1 g hg; have := (HYD.out.2 g h).2; omega)
  have HBA3 : Hid (Bk x3 ba 43 #[.int .i64 (oldm (onR 2 1 2)).kind, .int .i64 (oldm (onR 2 1 2)).origin, .int .i64 (oldm (onR 2 1 2)).life, .int .i64 (oldm (onR 2 1 2)).id, .int .i64 (oldm (onR 2 1 2)).part, .int .i64 (oldm (onR 2 1 2)).parts, .int .i64 (oldm (onR 2 1 2)).groups, .bool (oldm (onR 2 1 2)).safe, .int .i64 (oldm (onR 2 1 2)).st, .int .i64 (oldm (onR 2 1 2)).rs, .int .i64 (oldm (onR 2 1 2)).rr, .int .i64 (oldm (onR 2 1 2)).sq, .slice aa la ca]) := HBA2.out.mod hm2 (fun h => by have := (HYD.out.2 ba h).2; have := HEB.out; omega)
  have HV3 : Hid (Wn x3 p2 Z (jOf 2 1 S0) 0 0 0) := (HV1.out.keep HMA.out).mod hm2 HZ1.out
  clear hob hgb hrb hR2 hm2 HV1 HBA2 HR1 hs1
  go_upto_region 12 with (refine wpList_store_row infoM rfl rfl _ _ rfl x3.heap.size #[.int .i64 (oldm (onR 2 1 4)).kind, .int .i64 (oldm (onR 2 1 4)).origin, .int .i64 (oldm (onR 2 1 4)).life, .int .i64 (oldm (onR 2 1 4)).id, .int .i64 (oldm (onR 2 1 4)).part, .int .i64 (oldm (onR 2 1 4)).parts, .int .i64 (oldm (onR 2 1 4)).groups, .bool (oldm (onR 2 1 4)).safe, .int .i64 (oldm (onR 2 1 4)).st, .int .i64 (oldm (onR 2 1 4)).rs, .int .i64 (oldm (onR 2 1 4)).rr, .int .i64 (oldm (onR 2 1 4)).sq, .slice ab lb cb] rfl rfl (Bk.new x3 _ _) rfl rfl rfl ?_; intro x4 hBB hmB)
  obtain ⟨bb, ebb⟩ : ∃ bb, bb = x3.heap.size := ⟨_, rfl⟩
  rw [← ebb] at hBB ⊢
  have HMB : Hid (Mod (fun _ => False) x3 x4) := ((Mod.refl (fun _ => False) x3).alloc _).trans hmB (V := fun _ => False) (fun _ _ h => h) (fun i hi e => by omega)
  have HN3 := Next_nil (HR2.out.keep HMB.out)
  unfold mvl m0 at HN3
  have HZB : Hid (¬ Z bb) := HZN.out bb (by have := HYD.out.1.size; have := HMA.out.size; have := HM2.out.size; omega)
  have HBB4 : Hid (Bk x4 bb 43 #[.int .i64 (oldm (onR 2 1 4)).kind, .int .i64 (oldm (onR 2 1 4)).origin, .int .i64 (oldm (onR 2 1 4)).life, .int .i64 (oldm (onR 2 1 4)).id, .int .i64 (oldm (onR 2 1 4)).part, .int .i64 (oldm (onR 2 1 4)).parts, .int .i64 (oldm (onR 2 1 4)).groups, .bool (oldm (onR 2 1 4)).safe, .int .i64 (oldm (onR 2 1 4)).st, .int .i64 (oldm (onR 2 1 4)).rs, .int .i64 (oldm (onR 2 1 4)).rr, .int .i64 (oldm (onR 2 1 4)).sq, .slice ab lb cb]) := hBB
  clear hBB hmB ebb
  go_wp2_with (fail)
  refine HN3.mono ?_
  rintro e x5 ⟨rfl, hm5⟩
  have HM5 : Hid (Mod (fun _ => False) x3 x5) := HMB.out.and hm5
  have HBB5 : Hid (Bk x5 bb 43 #[.int .i64 (oldm (onR 2 1 4)).kind, .int .i64 (oldm (onR 2 1 4)).origin, .int .i64 (oldm (onR 2 1 4)).life, .int .i64 (oldm (onR 2 1 4)).id, .int .i64 (oldm (onR 2 1 4)).part, .int .i64 (oldm (onR 2 1 4)).parts, .int .i64 (oldm (onR 2 1 4)).groups, .bool (oldm (onR 2 1 4)).safe, .int .i64 (oldm (onR 2 1 4)).st, .int .i64 (oldm (onR 2 1 4)).rs, .int .i64 (oldm (onR 2 1 4)).rr, .int .i64 (oldm (onR 2 1 4)).sq, .slice ab lb cb]) := HBB4.out.mod hm5 (fun h => h)
  clear HN3 hm5 HBB4 HR2
  go_upto_region 13 with (refine wpList_store_row infoM rfl rfl _ _ rfl x5.heap.size #[.int .i64 0, .int .i64 0, .int .i64 0, .int .i64 0, .int .i64 0, .int .i64 0, .int .i64 0, .bool false, .int .i64 0, .int .i64 0, .int .i64 0, .int .i64 0, .slice none 0 0] rfl rfl (Bk.new x5 _ _) rfl rfl rfl ?_; intro x6 hBC hmC)
  have HM6 : Hid (Mod (fun _ => False) x3 x6) := (HM5.out.alloc _).trans hmC (V := fun _ => False) (fun _ _ h => h) (fun i hi e => by have := HM5.out.size; omega)
  have HM56 : Hid (Mod (fun _ => False) x5 x6) := ((Mod.refl (fun _ => False) x5).alloc _).trans hmC (V := fun _ => False) (fun _ _ h => h) (fun i hi e => by omega)
  have HBA : Hid (Bk x6 ba 43 #[.int .i64 (oldm (onR 2 1 2)).kind, .int .i64 (oldm (onR 2 1 2)).origin, .int .i64 (oldm (onR 2 1 2)).life, .int .i64 (oldm (onR 2 1 2)).id, .int .i64 (oldm (onR 2 1 2)).part, .int .i64 (oldm (onR 2 1 2)).parts, .int .i64 (oldm (onR 2 1 2)).groups, .bool (oldm (onR 2 1 2)).safe, .int .i64 (oldm (onR 2 1 2)).st, .int .i64 (oldm (onR 2 1 2)).rs, .int .i64 (oldm (onR 2 1 2)).rr, .int .i64 (oldm (onR 2 1 2)).sq, .slice aa la ca]) := HBA3.out.mod HM6.out (fun h => h)
  have HBB : Hid (Bk x6 bb 43 #[.int .i64 (oldm (onR 2 1 4)).kind, .int .i64 (oldm (onR 2 1 4)).origin, .int .i64 (oldm (onR 2 1 4)).life, .int .i64 (oldm (onR 2 1 4)).id, .int .i64 (oldm (onR 2 1 4)).part, .int .i64 (oldm (onR 2 1 4)).parts, .int .i64 (oldm (onR 2 1 4)).groups, .bool (oldm (onR 2 1 4)).safe, .int .i64 (oldm (onR 2 1 4)).st, .int .i64 (oldm (onR 2 1 4)).rs, .int .i64 (oldm (onR 2 1 4)).rr, .int .i64 (oldm (onR 2 1 4)).sq, .slice ab lb cb]) := HBB5.out.mod HM56.out (fun h => h)
  have HV6 : Hid (Wn x6 p2 Z (jOf 2 1 S0) 0 0 0) := HV3.out.keep HM6.out
  have HO6 : Hid (Own x6 (.slice aa la ca) (oldm (onR 2 1 2)).body ∧ (∀ c ∈ (oldm (onR 2 1 2)).body, 0 ≤ c ∧ c ≤ 255)) := ⟨HOA3.out.mod HM6.out (fun _ _ h => h), HOA1.out.2.2⟩
  have HALL : Hid (Mod (fun _ => False) w x6 ∧ (∀ i, Z i → w.heap.size ≤ i)) := by
    obtain ⟨b1, b2, b3⟩ := HBr.out
    have hy := HYD.out
    have h1 := b1.trans hy.1 (V := fun i => w.heap.size ≤ i) (fun _ _ h => h) (fun i _ h => by have := (hy.2 i h).1; omega)
    have h2 := (h1.trans HMA.out (V := fun i => w.heap.size ≤ i) (fun _ _ h => h) (fun _ _ h => h.elim)).trans HM2.out (V := fun i => w.heap.size ≤ i) (fun _ _ h => h) (fun i _ h => by have := (hy.2 i h).1; omega)
    exact ⟨(h2.trans HM6.out (V := fun i => w.heap.size ≤ i) (fun _ _ h => h) (fun _ _ h => h.elim)).trans (Mod.refl (fun _ => False) x6) (V := fun _ => False) (fun i hi h => by omega) (fun _ _ h => h), b2⟩
  clear hBC hmC HM5 HM56 HBA3 HBB5 HV3 HOA3 HOA1 HMB HM6 HMA HM2 HBr HYD HZ1 HEB
  have HT1 : ∀ W, Mod (fun _ => False) x6 W → Calls Tryz.prog 17 #[.pointer (some ⟨p2, 0, none⟩), .agg #[.int .i64 2, .int .i64 1], .agg #[.int .i64 (oldm (onR 2 1 2)).kind, .int .i64 (oldm (onR 2 1 2)).origin, .int .i64 (oldm (onR 2 1 2)).life, .int .i64 (oldm (onR 2 1 2)).id, .int .i64 (oldm (onR 2 1 2)).part, .int .i64 (oldm (onR 2 1 2)).parts, .int .i64 (oldm (onR 2 1 2)).groups, .bool (oldm (onR 2 1 2)).safe, .int .i64 (oldm (onR 2 1 2)).st, .int .i64 (oldm (onR 2 1 2)).rs, .int .i64 (oldm (onR 2 1 2)).rr, .int .i64 (oldm (onR 2 1 2)).sq, .slice aa la ca]] W fun e w' => ∃ X' a', e = .returned (.tuple #[.bool true, .int .i64 0]) ∧ Wn w' p2 X' (jOf 2 1 (ins S0 2)) a' 2 1 ∧ Mod (fun i => w.heap.size ≤ i) x6 w' ∧ (∀ i, X' i → w.heap.size ≤ i) ∧ Mod Z W w' ∧ Gone W Z X' := fun W hW => by
    refine (Take_j (HV6.out.keep hW) is21 cr21 2 (by decide) 2 1 (.slice aa la ca) ((HO6.out.1.mod hW (fun _ _ h => h)).sl HO6.out.2) (by decide)).mono ?_
    rintro e w' ⟨X', a', rfl, h1, h2, h3⟩
    refine ⟨X', a', rfl, h1, hW.trans h2 (V := fun i => w.heap.size ≤ i) (fun _ _ h => h.elim) (fun i _ h => HALL.out.2 i h), fun i hi => ?_, h2, h3⟩
    rcases h3 i hi with h | h
    · exact HALL.out.2 i h
    · have := hW.size
      have := HALL.out.1.size
      omega
  have s0 : x6.cell? ⟨ba, 0, none⟩ = some (.int .i64 (oldm (onR 2 1 2)).kind) := HBA.out.cellv (j := 0) rfl
  have s1 : x6.cell? ⟨ba, 1, none⟩ = some (.int .i64 (oldm (onR 2 1 2)).origin) := HBA.out.cellv (j := 1) rfl
  have s2 : x6.cell? ⟨ba, 2, none⟩ = some (.int .i64 (oldm (onR 2 1 2)).life) := HBA.out.cellv (j := 2) rfl
  have s3 : x6.cell? ⟨ba, 3, none⟩ = some (.int .i64 (oldm (onR 2 1 2)).id) := HBA.out.cellv (j := 3) rfl
  have s4 : x6.cell? ⟨ba, 4, none⟩ = some (.int .i64 (oldm (onR 2 1 2)).part) := HBA.out.cellv (j := 4) rfl
  have s5 : x6.cell? ⟨ba, 5, none⟩ = some (.int .i64 (oldm (onR 2 1 2)).parts) := HBA.out.cellv (j := 5) rfl
  have s6 : x6.cell? ⟨ba, 6, none⟩ = some (.int .i64 (oldm (onR 2 1 2)).groups) := HBA.out.cellv (j := 6) rfl
  have s7 : x6.cell? ⟨ba, 7, none⟩ = some (.bool (oldm (onR 2 1 2)).safe) := HBA.out.cellv (j := 7) rfl
  have s8 : x6.cell? ⟨ba, 8, none⟩ = some (.int .i64 (oldm (onR 2 1 2)).st) := HBA.out.cellv (j := 8) rfl
  have s9 : x6.cell? ⟨ba, 9, none⟩ = some (.int .i64 (oldm (onR 2 1 2)).rs) := HBA.out.cellv (j := 9) rfl
  have s10 : x6.cell? ⟨ba, 10, none⟩ = some (.int .i64 (oldm (onR 2 1 2)).rr) := HBA.out.cellv (j := 10) rfl
  have s11 : x6.cell? ⟨ba, 11, none⟩ = some (.int .i64 (oldm (onR 2 1 2)).sq) := HBA.out.cellv (j := 11) rfl
  have s12 : x6.cell? ⟨ba, 12, none⟩ = some (.slice aa la ca) := HBA.out.cellv (j := 12) rfl
  go_region_held3 (fun u => u.cell? ⟨ba, 0, none⟩ = some (.int .i64 (oldm (onR 2 1 2)).kind) ∧ u.cell? ⟨ba, 1, none⟩ = some (.int .i64 (oldm (onR 2 1 2)).origin) ∧ u.cell? ⟨ba, 2, none⟩ = some (.int .i64 (oldm (onR 2 1 2)).life) ∧ u.cell? ⟨ba, 3, none⟩ = some (.int .i64 (oldm (onR 2 1 2)).id) ∧ u.cell? ⟨ba, 4, none⟩ = some (.int .i64 (oldm (onR 2 1 2)).part) ∧ u.cell? ⟨ba, 5, none⟩ = some (.int .i64 (oldm (onR 2 1 2)).parts) ∧ u.cell? ⟨ba, 6, none⟩ = some (.int .i64 (oldm (onR 2 1 2)).groups) ∧ u.cell? ⟨ba, 7, none⟩ = some (.bool (oldm (onR 2 1 2)).safe) ∧ u.cell? ⟨ba, 8, none⟩ = some (.int .i64 (oldm (onR 2 1 2)).st) ∧ u.cell? ⟨ba, 9, none⟩ = some (.int .i64 (oldm (onR 2 1 2)).rs) ∧ u.cell? ⟨ba, 10, none⟩ = some (.int .i64 (oldm (onR 2 1 2)).rr) ∧ u.cell? ⟨ba, 11, none⟩ = some (.int .i64 (oldm (onR 2 1 2)).sq) ∧ u.cell? ⟨ba, 12, none⟩ = some (.slice aa la ca)) (first | exact ⟨s0, s1, s2, s3, s4, s5, s6, s7, s8, s9, s10, s11, s12⟩ | go_keep) (first
    | (go_at_call 26; with_reducible refine (old_any _).mono ?_; rintro e x7 ⟨rfl, hm7⟩; have hB7 := (HBA.out.mod ((Mod.refl (fun _ => False) x6).drew) (fun h => h)).mod hm7 (fun h => h); have s0 := hB7.cellv (j := 0) rfl; have s1 := hB7.cellv (j := 1) rfl; have s2 := hB7.cellv (j := 2) rfl; have s3 := hB7.cellv (j := 3) rfl; have s4 := hB7.cellv (j := 4) rfl; have s5 := hB7.cellv (j := 5) rfl; have s6 := hB7.cellv (j := 6) rfl; have s7 := hB7.cellv (j := 7) rfl; have s8 := hB7.cellv (j := 8) rfl; have s9 := hB7.cellv (j := 9) rfl; have s10 := hB7.cellv (j := 10) rfl; have s11 := hB7.cellv (j := 11) rfl; have s12 := hB7.cellv (j := 12) rfl; clear hB7)
    | (go_at_call 17; with_reducible refine (HT1 _ (((Mod.refl (fun _ => False) x6).drew).and hm7)).mono ?_; rintro e x8 ⟨Z1, a8, rfl, hv8, hm8, hz8, hmz8, hgo8⟩; have hB8 := ((HBA.out.mod ((Mod.refl (fun _ => False) x6).drew) (fun h => h)).mod hm7 (fun h => h)).mod hmz8 HZA.out.1; have s0 := hB8.cellv (j := 0) rfl; have s1 := hB8.cellv (j := 1) rfl; have s2 := hB8.cellv (j := 2) rfl; have s3 := hB8.cellv (j := 3) rfl; have s4 := hB8.cellv (j := 4) rfl; have s5 := hB8.cellv (j := 5) rfl; have s6 := hB8.cellv (j := 6) rfl; have s7 := hB8.cellv (j := 7) rfl; have s8 := hB8.cellv (j := 8) rfl; have s9 := hB8.cellv (j := 9) rfl; have s10 := hB8.cellv (j := 10) rfl; have s11 := hB8.cellv (j := 11) rfl; have s12 := hB8.cellv (j := 12) rfl; clear hB8))
  have HD7 : Hid (Mod (fun _ => False) x6 x7) := ((Mod.refl (fun _ => False) x6).drew).and hm7
  have HBA8 : Hid (Bk x8 ba 43 #[.int .i64 (oldm (onR 2 1 2)).kind, .int .i64 (oldm (onR 2 1 2)).origin, .int .i64 (oldm (onR 2 1 2)).life, .int .i64 (oldm (onR 2 1 2)).id, .int .i64 (oldm (onR 2 1 2)).part, .int .i64 (oldm (onR 2 1 2)).parts, .int .i64 (oldm (onR 2 1 2)).groups, .bool (oldm (onR 2 1 2)).safe, .int .i64 (oldm (onR 2 1 2)).st, .int .i64 (oldm (onR 2 1 2)).rs, .int .i64 (oldm (onR 2 1 2)).rr, .int .i64 (oldm (onR 2 1 2)).sq, .slice aa la ca]) := (HBA.out.mod HD7.out (fun h => h)).mod hmz8 HZA.out.1
  have HBB8 : Hid (Bk x8 bb 43 #[.int .i64 (oldm (onR 2 1 4)).kind, .int .i64 (oldm (onR 2 1 4)).origin, .int .i64 (oldm (onR 2 1 4)).life, .int .i64 (oldm (onR 2 1 4)).id, .int .i64 (oldm (onR 2 1 4)).part, .int .i64 (oldm (onR 2 1 4)).parts, .int .i64 (oldm (onR 2 1 4)).groups, .bool (oldm (onR 2 1 4)).safe, .int .i64 (oldm (onR 2 1 4)).st, .int .i64 (oldm (onR 2 1 4)).rs, .int .i64 (oldm (onR 2 1 4)).rr, .int .i64 (oldm (onR 2 1 4)).sq, .slice ab lb cb]) := (HBB.out.mod HD7.out (fun h => h)).mod hmz8 HZB.out
  have HV8 : Hid (Wn x8 p2 Z1 (jOf 2 1 (ins S0 2)) a8 2 1) := hv8
  have HM8 : Hid (Mod (fun _ => False) w x8 ∧ (∀ i, Z1 i → w.heap.size ≤ i)) := ⟨(HALL.out.1.trans hm8 (V := fun i => w.heap.size ≤ i) (fun _ _ h => h.elim) (fun i _ h => h)).trans (Mod.refl (fun _ => False) x8) (V := fun _ => False) (fun i hi h => by omega) (fun _ _ h => h), hz8⟩
  have HO8 : Hid (Own x8 (.slice aa la ca) (oldm (onR 2 1 2)).body ∧ (∀ c ∈ (oldm (onR 2 1 2)).body, 0 ≤ c ∧ c ≤ 255)) := ⟨(HO6.out.1.mod HD7.out (fun _ _ h => h)).mod hmz8 HZA.out.2, HO6.out.2⟩
  have HG8 : Hid (∀ i, x6.heap.size ≤ i → i < x8.heap.size → ¬ Z i) := fun i h _ hi => by have := HV6.out.mem.lt i hi; omega
  have HZ1A : Hid (¬ Z1 ba ∧ ¬ Z1 bb) := by
    have h1 := HBA.out.lt
    have h2 := HBB.out.lt
    have hs := HD7.out.size
    refine ⟨fun h => ?_, fun h => ?_⟩
    · rcases hgo8 ba h with h | h
      · exact HZA.out.1 h
      · omega
    · rcases hgo8 bb h with h | h
      · exact HZB.out h
      · omega
  clear hm7 hm8 hz8 hmz8 hv8 hgo8 HV6 HO6 HT1 s0 s1 s2 s3 s4 s5 s6 s7 s8 s9 s10 s11 s12
  have HT2 : ∀ W, Mod (fun _ => False) x8 W → Calls Tryz.prog 17 #[.pointer (some ⟨p2, 0, none⟩), .agg #[.int .i64 2, .int .i64 1], .agg #[.int .i64 (oldm (onR 2 1 2)).kind, .int .i64 (oldm (onR 2 1 2)).origin, .int .i64 (oldm (onR 2 1 2)).life, .int .i64 (oldm (onR 2 1 2)).id, .int .i64 (oldm (onR 2 1 2)).part, .int .i64 (oldm (onR 2 1 2)).parts, .int .i64 (oldm (onR 2 1 2)).groups, .bool (oldm (onR 2 1 2)).safe, .int .i64 (oldm (onR 2 1 2)).st, .int .i64 (oldm (onR 2 1 2)).rs, .int .i64 (oldm (onR 2 1 2)).rr, .int .i64 (oldm (onR 2 1 2)).sq, .slice aa la ca]] W fun e w' => ∃ X' a', e = .returned (.tuple #[.bool false, .int .i64 0]) ∧ Wn w' p2 X' (jOf 2 1 (ins (ins S0 2) 2)) a' 2 2 ∧ Mod Z1 W w' := fun W hW => by
    refine (Take_j (HV8.out.keep hW) is21 cr21 2 (by decide) 2 1 (.slice aa la ca) ((HO8.out.1.mod hW (fun _ _ h => h)).sl HO8.out.2) (by decide)).mono ?_
    rintro e w' ⟨X', a', rfl, h1, h2, h3⟩
    exact ⟨X', a', rfl, h1, h2⟩
  go_upto_region 14 with (fail)
  have s0 : x8.cell? ⟨ba, 0, none⟩ = some (.int .i64 (oldm (onR 2 1 2)).kind) := HBA8.out.cellv (j := 0) rfl
  have s1 : x8.cell? ⟨ba, 1, none⟩ = some (.int .i64 (oldm (onR 2 1 2)).origin) := HBA8.out.cellv (j := 1) rfl
  have s2 : x8.cell? ⟨ba, 2, none⟩ = some (.int .i64 (oldm (onR 2 1 2)).life) := HBA8.out.cellv (j := 2) rfl
  have s3 : x8.cell? ⟨ba, 3, none⟩ = some (.int .i64 (oldm (onR 2 1 2)).id) := HBA8.out.cellv (j := 3) rfl
  have s4 : x8.cell? ⟨ba, 4, none⟩ = some (.int .i64 (oldm (onR 2 1 2)).part) := HBA8.out.cellv (j := 4) rfl
  have s5 : x8.cell? ⟨ba, 5, none⟩ = some (.int .i64 (oldm (onR 2 1 2)).parts) := HBA8.out.cellv (j := 5) rfl
  have s6 : x8.cell? ⟨ba, 6, none⟩ = some (.int .i64 (oldm (onR 2 1 2)).groups) := HBA8.out.cellv (j := 6) rfl
  have s7 : x8.cell? ⟨ba, 7, none⟩ = some (.bool (oldm (onR 2 1 2)).safe) := HBA8.out.cellv (j := 7) rfl
  have s8 : x8.cell? ⟨ba, 8, none⟩ = some (.int .i64 (oldm (onR 2 1 2)).st) := HBA8.out.cellv (j := 8) rfl
  have s9 : x8.cell? ⟨ba, 9, none⟩ = some (.int .i64 (oldm (onR 2 1 2)).rs) := HBA8.out.cellv (j := 9) rfl
  have s10 : x8.cell? ⟨ba, 10, none⟩ = some (.int .i64 (oldm (onR 2 1 2)).rr) := HBA8.out.cellv (j := 10) rfl
  have s11 : x8.cell? ⟨ba, 11, none⟩ = some (.int .i64 (oldm (onR 2 1 2)).sq) := HBA8.out.cellv (j := 11) rfl
  have s12 : x8.cell? ⟨ba, 12, none⟩ = some (.slice aa la ca) := HBA8.out.cellv (j := 12) rfl
  go_region_held3 (fun u => u.cell? ⟨ba, 0, none⟩ = some (.int .i64 (oldm (onR 2 1 2)).kind) ∧ u.cell? ⟨ba, 1, none⟩ = some (.int .i64 (oldm (onR 2 1 2)).origin) ∧ u.cell? ⟨ba, 2, none⟩ = some (.int .i64 (oldm (onR 2 1 2)).life) ∧ u.cell? ⟨ba, 3, none⟩ = some (.int .i64 (oldm (onR 2 1 2)).id) ∧ u.cell? ⟨ba, 4, none⟩ = some (.int .i64 (oldm (onR 2 1 2)).part) ∧ u.cell? ⟨ba, 5, none⟩ = some (.int .i64 (oldm (onR 2 1 2)).parts) ∧ u.cell? ⟨ba, 6, none⟩ = some (.int .i64 (oldm (onR 2 1 2)).groups) ∧ u.cell? ⟨ba, 7, none⟩ = some (.bool (oldm (onR 2 1 2)).safe) ∧ u.cell? ⟨ba, 8, none⟩ = some (.int .i64 (oldm (onR 2 1 2)).st) ∧ u.cell? ⟨ba, 9, none⟩ = some (.int .i64 (oldm (onR 2 1 2)).rs) ∧ u.cell? ⟨ba, 10, none⟩ = some (.int .i64 (oldm (onR 2 1 2)).rr) ∧ u.cell? ⟨ba, 11, none⟩ = some (.int .i64 (oldm (onR 2 1 2)).sq) ∧ u.cell? ⟨ba, 12, none⟩ = some (.slice aa la ca)) (first | exact ⟨s0, s1, s2, s3, s4, s5, s6, s7, s8, s9, s10, s11, s12⟩ | go_keep) (first
    | (go_at_call 26; with_reducible refine (old_any _).mono ?_; rintro e x9 ⟨rfl, hm9⟩; have hB7 := (HBA8.out.mod ((Mod.refl (fun _ => False) x8).drew) (fun h => h)).mod hm9 (fun h => h); have s0 := hB7.cellv (j := 0) rfl; have s1 := hB7.cellv (j := 1) rfl; have s2 := hB7.cellv (j := 2) rfl; have s3 := hB7.cellv (j := 3) rfl; have s4 := hB7.cellv (j := 4) rfl; have s5 := hB7.cellv (j := 5) rfl; have s6 := hB7.cellv (j := 6) rfl; have s7 := hB7.cellv (j := 7) rfl; have s8 := hB7.cellv (j := 8) rfl; have s9 := hB7.cellv (j := 9) rfl; have s10 := hB7.cellv (j := 10) rfl; have s11 := hB7.cellv (j := 11) rfl; have s12 := hB7.cellv (j := 12) rfl; clear hB7)
    | (go_at_call 17; with_reducible refine (HT2 _ (((Mod.refl (fun _ => False) x8).drew).and hm9)).mono ?_; rintro e xa ⟨Z2, aa2, rfl, hva, hmza⟩; have hB8 := ((HBA8.out.mod ((Mod.refl (fun _ => False) x8).drew) (fun h => h)).mod hm9 (fun h => h)).mod hmza HZ1A.out.1; have s0 := hB8.cellv (j := 0) rfl; have s1 := hB8.cellv (j := 1) rfl; have s2 := hB8.cellv (j := 2) rfl; have s3 := hB8.cellv (j := 3) rfl; have s4 := hB8.cellv (j := 4) rfl; have s5 := hB8.cellv (j := 5) rfl; have s6 := hB8.cellv (j := 6) rfl; have s7 := hB8.cellv (j := 7) rfl; have s8 := hB8.cellv (j := 8) rfl; have s9 := hB8.cellv (j := 9) rfl; have s10 := hB8.cellv (j := 10) rfl; have s11 := hB8.cellv (j := 11) rfl; have s12 := hB8.cellv (j := 12) rfl; clear hB8))
  have HD9 : Hid (Mod (fun _ => False) x8 x9) := ((Mod.refl (fun _ => False) x8).drew).and hm9
  have hBBa := (HBB8.out.mod HD9.out (fun h => h)).mod hmza HZ1A.out.2
  have k11 : xa.cell? ⟨ba, 11, none⟩ = some (.int .i64 2) := s11
  have j11 : xa.cell? ⟨bb, 11, none⟩ = some (.int .i64 4) := hBBa.cellv (j := 11) rfl
  have HHI := High_w hva
  have HMA : Hid (Mod (fun _ => False) w xa) := ((HM8.out.1.and HD9.out).trans hmza (V := fun i => w.heap.size ≤ i) (fun _ _ h => h.elim) (fun i _ h => HM8.out.2 i h)).trans (Mod.refl (fun _ => False) xa) (V := fun _ => False) (fun i hi h => by omega) (fun _ _ h => h)
  clear hm9 hva hmza s0 s1 s2 s3 s4 s5 s6 s7 s8 s9 s10 s11 s12 hBBa HT2
  go_wp2_with (go_at_call 21; refine HHI.mono ?_; rintro e w' ⟨rfl, rfl⟩)
  go_ret
  exact ⟨rfl, HMA.out⟩
end Go.Proofs.YthiijonmnebjgaaGreat
namespace Go.Proofs.YthiijonmnebjgaaGreat
open Go.ChangeShapes Go.WideShapes Go.ChangeAt Go.RowKit
variable {H : Type} {enc : TypeId × Value → H} {W : World}
theorem cells3 : Tryz.prog.cellsOf 3 = 1 := by kernel_rfl
theorem cells4 : Tryz.prog.cellsOf 4 = 1 := by kernel_rfl
theorem cells5 : Tryz.prog.cellsOf 5 = 1 := by kernel_rfl
theorem cellsR : Tryz.prog.cellsOf 38 = 2 := by kernel_rfl
theorem cellsK : Tryz.prog.cellsOf 40 = 4 := by kernel_rfl
theorem cellsB : Tryz.prog.cellsOf 41 = 1 := by kernel_rfl
theorem cellsM : Tryz.prog.cellsOf 43 = 13 := by kernel_rfl
theorem bytes5 : Tryz.prog.bytesOf 5 = 1 := by kernel_rfl
theorem own : ownKnob Tryz.prog.godebug = none := by kernel_rfl
theorem laidOut : laidOutB Tryz.prog = true := by kernel_rfl
theorem sl_of_trod {n : Nat} {c : Value} {x : DataW H × List MemPlace} (h : DataW.trod enc Tryz.prog W 0 (fun _ => true) true n 41 [c] = some x) :
    ∃ l, Sl W c l ∧ ((x.1 = .nil ∧ l = []) ∨ ∃ e s, x.1 = .slice e s ∧ e.length = l.length) := by
  rcases open_ints Tryz.underlying41 Tryz.underlying5 cells5 h with ⟨hcs, rfl⟩ | ⟨a, len, cap, zs, hcs, _, hl, hm, hz, rfl, hcell, hwz⟩
  · cases hcs
    exact ⟨[], ⟨⟨none, 0, rfl, Nat.le_refl _, by simp [maxLen], fun _ => rfl, fun h => absurd rfl h⟩, by simp⟩, .inl ⟨rfl, rfl⟩⟩
  · cases hcs
    simp only [if_true] at hz
    have hlen : (zs.take len).length = len := by simp; omega
    refine ⟨zs.take len, ⟨⟨some a, cap, by rw [hlen], by omega, hm, (by intro h; cases h), fun hne => ?_⟩, ?_⟩, .inr ⟨_, _, rfl, by simp [lits]⟩⟩
    · have h0 : 0 < len := by
        rcases Nat.eq_zero_or_pos len with h | h
        · subst h; simp at hne
        · exact h
      obtain ⟨b, off, spot⟩ := a
      have hc0 := hcell 0 (by omega)
      have hspot : spot = none := by simpa [Addr.add] using World.cell?_spot hc0
      subst hspot
      refine ⟨b, off, rfl, fun j hj => ?_⟩
      rw [hlen] at hj
      have := hcell j (by omega)
      rw [add_at] at this
      rw [this]
      simp [hj]
    · intro c hc
      have := hwz c (List.mem_of_mem_take hc)
      have hb := bounds_u8 this
      omega
theorem i64_of_wf {n : Int} (h : (Lit.int .i64 n).wf = true) : -9223372036854775808 ≤ n ∧ n ≤ 9223372036854775807 := by
  have := bounds_i64 h
  omega

/-- A key's cells. -/
theorem key_cells {n : Nat} {c0 c1 c2 c3 : Value} {x : DataW H × List MemPlace} {sp : Nat → Bool} (h : DataW.trod enc Tryz.prog W 0 sp true n 40 [c0, c1, c2, c3] = some x) :
    ∃ s q r n : Int, c0 = .int .i64 s ∧ c1 = .int .i64 q ∧ c2 = .int .i64 r ∧ c3 = .int .i64 n ∧ (Lit.int .i64 s).wf = true ∧ (Lit.int .i64 q).wf = true ∧ (Lit.int .i64 r).wf = true ∧ (Lit.int .i64 n).wf = true := by
  obtain ⟨y0, y1, y2, m, hx, _, t0, t1, t2⟩ := Deep.trod_struct3 Tryz.underlying40 h
  simp only [cells3, cellsR, List.drop_zero, List.drop_succ_cons, List.take_succ_cons, List.take_zero] at t0 t1 t2
  obtain ⟨z0, z1, m', _, _, u0, u1⟩ := trod_struct2 Tryz.underlying38 t1
  simp only [cells3, List.drop_zero, List.drop_succ_cons, List.take_succ_cons, List.take_zero] at u0 u1
  obtain ⟨k0, e0, _, w0⟩ := DataW.trod_int Tryz.underlying3 t0
  obtain ⟨k1, e1, _, w1⟩ := DataW.trod_int Tryz.underlying3 u0
  obtain ⟨k2, e2, _, w2⟩ := DataW.trod_int Tryz.underlying3 u1
  obtain ⟨k3, e3, _, w3⟩ := DataW.trod_int Tryz.underlying3 t2
  simp at e0 e1 e2 e3
  exact ⟨k0, k1, k2, k3, e0, e1, e2, e3, w0, w1, w2, w3⟩
set_option maxRecDepth 100000 in
theorem trod_struct10 {P : Program} {w : World} {base : Nat} {spare : Nat → Bool} {held : Bool} {t : TypeId} {f0 f1 f2 f3 f4 f5 f6 f7 f8 f9 : Field} {fuel : Nat} {cs : List Value} {x : DataW H × List MemPlace} (ht : P.underlying t = some (.struct #[f0, f1, f2, f3, f4, f5, f6, f7, f8, f9])) (h : DataW.trod enc P w base spare held fuel t cs = some x) :
    ∃ y0 y1 y2 y3 y4 y5 y6 y7 y8 y9 n, x.1 = .agg [y0.1, y1.1, y2.1, y3.1, y4.1, y5.1, y6.1, y7.1, y8.1, y9.1] ∧ DataW.trod enc P w base spare held n f0.type ((cs.drop f0.offset).take (P.cellsOf f0.type)) = some y0 ∧ DataW.trod enc P w base spare held n f1.type ((cs.drop f1.offset).take (P.cellsOf f1.type)) = some y1 ∧ DataW.trod enc P w base spare held n f2.type ((cs.drop f2.offset).take (P.cellsOf f2.type)) = some y2 ∧ DataW.trod enc P w base spare held n f3.type ((cs.drop f3.offset).take (P.cellsOf f3.type)) = some y3 ∧ DataW.trod enc P w base spare held n f4.type ((cs.drop f4.offset).take (P.cellsOf f4.type)) = some y4 ∧ DataW.trod enc P w base spare held n f5.type ((cs.drop f5.offset).take (P.cellsOf f5.type)) = some y5 ∧ DataW.trod enc P w base spare held n f6.type ((cs.drop f6.offset).take (P.cellsOf f6.type)) = some y6 ∧ DataW.trod enc P w base spare held n f7.type ((cs.drop f7.offset).take (P.cellsOf f7.type)) = some y7 ∧ DataW.trod enc P w base spare held n f8.type ((cs.drop f8.offset).take (P.cellsOf f8.type)) = some y8 ∧ DataW.trod enc P w base spare held n f9.type ((cs.drop f9.offset).take (P.cellsOf f9.type)) = some y9 := by
  obtain ⟨xs, n, _, rfl, hl, hlen, hf⟩ := DataW.trod_struct ht h
  match xs, hlen with
  | [y0, y1, y2, y3, y4, y5, y6, y7, y8, y9], _ => exact ⟨y0, y1, y2, y3, y4, y5, y6, y7, y8, y9, n, rfl, by simpa using hf 0 f0 rfl, by simpa using hf 1 f1 rfl, by simpa using hf 2 f2 rfl, by simpa using hf 3 f3 rfl, by simpa using hf 4 f4 rfl, by simpa using hf 5 f5 rfl, by simpa using hf 6 f6 rfl, by simpa using hf 7 f7 rfl, by simpa using hf 8 f8 rfl, by simpa using hf 9 f9 rfl⟩

/-- A message's cells: its numbers, and its body; and how the body is told. -/
theorem msg_cells {n : Nat} {c0 c1 c2 c3 c4 c5 c6 c7 c8 c9 c10 c11 c12 : Value} {x : DataW H × List MemPlace} (h : DataW.trod enc Tryz.prog W 0 (fun _ => true) true n 43 [c0, c1, c2, c3, c4, c5, c6, c7, c8, c9, c10, c11, c12] = some x) :
    ∃ (k o lf i p ps g : Int) (s : Bool) (st rs rr sq : Int) (l : List Int), (c0 = .int .i64 k ∧ c1 = .int .i64 o ∧ c2 = .int .i64 lf ∧ c3 = .int .i64 i ∧ c4 = .int .i64 p ∧ c5 = .int .i64 ps ∧ c6 = .int .i64 g ∧ c7 = .bool s ∧ c8 = .int .i64 st ∧ c9 = .int .i64 rs ∧ c10 = .int .i64 rr ∧ c11 = .int .i64 sq) ∧ Sl W c12 l ∧ ((-9223372036854775808 ≤ k ∧ k ≤ 9223372036854775807) ∧ (-9223372036854775808 ≤ o ∧ o ≤ 9223372036854775807) ∧ (-9223372036854775808 ≤ lf ∧ lf ≤ 9223372036854775807) ∧ (-9223372036854775808 ≤ i ∧ i ≤ 9223372036854775807) ∧ (-9223372036854775808 ≤ p ∧ p ≤ 9223372036854775807) ∧ (-9223372036854775808 ≤ ps ∧ ps ≤ 9223372036854775807) ∧ (-9223372036854775808 ≤ g ∧ g ≤ 9223372036854775807) ∧ (-9223372036854775808 ≤ st ∧ st ≤ 9223372036854775807) ∧ (-9223372036854775808 ≤ rs ∧ rs ≤ 9223372036854775807) ∧ (-9223372036854775808 ≤ rr ∧ rr ≤ 9223372036854775807) ∧ (-9223372036854775808 ≤ sq ∧ sq ≤ 9223372036854775807)) ∧
      ∃ parts d, x.1 = .agg parts ∧ parts[9]? = some d ∧ ((d = .nil ∧ l = []) ∨ ∃ e s, d = .slice e s ∧ e.length = l.length) := by
  obtain ⟨y0, y1, y2, y3, y4, y5, y6, y7, y8, y9, m, hx, t0, t1, t2, t3, t4, t5, t6, t7, t8, t9⟩ := trod_struct10 Tryz.underlying43 h
  simp only [cells3, cells4, cellsK, cellsB, List.drop_zero, List.drop_succ_cons, List.take_succ_cons, List.take_zero] at t0 t1 t2 t3 t4 t5 t6 t7 t8 t9
  obtain ⟨k0, e0, _, w0⟩ := DataW.trod_int Tryz.underlying3 t0
  obtain ⟨k1, e1, _, w1⟩ := DataW.trod_int Tryz.underlying3 t1
  obtain ⟨k2, e2, _, w2⟩ := DataW.trod_int Tryz.underlying3 t2
  obtain ⟨k3, e3, _, w3⟩ := DataW.trod_int Tryz.underlying3 t3
  obtain ⟨k4, e4, _, w4⟩ := DataW.trod_int Tryz.underlying3 t4
  obtain ⟨k5, e5, _, w5⟩ := DataW.trod_int Tryz.underlying3 t5
  obtain ⟨k6, e6, _, w6⟩ := DataW.trod_int Tryz.underlying3 t6
  obtain ⟨b7, e7, _⟩ := DataW.trod_bool Tryz.underlying4 t7
  obtain ⟨k8, k9, k10, k11, e8, e9, e10, e11, w8, w9, w10, w11⟩ := key_cells t8
  obtain ⟨l, hs, hd⟩ := sl_of_trod t9
  simp at e0 e1 e2 e3 e4 e5 e6 e7
  refine ⟨k0, k1, k2, k3, k4, k5, k6, b7, k8, k9, k10, k11, l, ⟨e0, e1, e2, e3, e4, e5, e6, e7, e8, e9, e10, e11⟩, hs, ⟨i64_of_wf w0, i64_of_wf w1, i64_of_wf w2, i64_of_wf w3, i64_of_wf w4, i64_of_wf w5, i64_of_wf w6, i64_of_wf w8, i64_of_wf w9, i64_of_wf w10, i64_of_wf w11⟩, _, y9.1, hx, rfl, hd⟩
set_option maxRecDepth 100000 in
theorem array13 {α : Type} {cs : Array α} (h : cs.size = 13) : ∃ c0 c1 c2 c3 c4 c5 c6 c7 c8 c9 c10 c11 c12, cs = #[c0, c1, c2, c3, c4, c5, c6, c7, c8, c9, c10, c11, c12] := by
  obtain ⟨l⟩ := cs
  match l, h with
  | [c0, c1, c2, c3, c4, c5, c6, c7, c8, c9, c10, c11, c12], _ => exact ⟨c0, c1, c2, c3, c4, c5, c6, c7, c8, c9, c10, c11, c12, rfl⟩
theorem weights_agg (P : Program) {t : TypeId} {fs : Array Field} (hu : P.underlying t = some (.struct fs)) (parts : List (DataW H)) : (DataW.agg parts).weights P t = DataW.weightsEach P (fs.toList.map (·.type)) parts := by
  rw [DataW.weights, hu]
set_option maxRecDepth 100000 in
theorem open_msg {r : Reach} {base : Nat} {v : Value} {d : DataW H} {p : List MemPlace} (hv : Value.okWide Tryz.prog W r base 43 v) (h : DataW.Trod enc Tryz.prog W 0 (fun _ => true) true 43 v d p) :
    ∃ (k o lf i pt ps g : Int) (s : Bool) (st rs rr sq : Int) (ao : Option Addr) (cap : Nat) (l : List Int), v = .agg #[.int .i64 k, .int .i64 o, .int .i64 lf, .int .i64 i, .int .i64 pt, .int .i64 ps, .int .i64 g, .bool s, .int .i64 st, .int .i64 rs, .int .i64 rr, .int .i64 sq, .slice ao l.length cap] ∧ Sl W (.slice ao l.length cap) l ∧
      ((-9223372036854775808 ≤ k ∧ k ≤ 9223372036854775807) ∧ (-9223372036854775808 ≤ o ∧ o ≤ 9223372036854775807) ∧ (-9223372036854775808 ≤ lf ∧ lf ≤ 9223372036854775807) ∧ (-9223372036854775808 ≤ i ∧ i ≤ 9223372036854775807) ∧ (-9223372036854775808 ≤ pt ∧ pt ≤ 9223372036854775807) ∧ (-9223372036854775808 ≤ ps ∧ ps ≤ 9223372036854775807) ∧ (-9223372036854775808 ≤ g ∧ g ≤ 9223372036854775807) ∧ (-9223372036854775808 ≤ st ∧ st ≤ 9223372036854775807) ∧ (-9223372036854775808 ≤ rs ∧ rs ≤ 9223372036854775807) ∧ (-9223372036854775808 ≤ rr ∧ rr ≤ 9223372036854775807) ∧ (-9223372036854775808 ≤ sq ∧ sq ≤ 9223372036854775807)) ∧ (∀ B, (d.weights Tryz.prog 43).all (· ≤ B) = true → l.length ≤ B) := by
  obtain ⟨cs, rfl, hsz⟩ := okWide_struct Tryz.underlying43 hv
  obtain ⟨c0, c1, c2, c3, c4, c5, c6, c7, c8, c9, c10, c11, c12, rfl⟩ := array13 (hsz.trans cellsM)
  obtain ⟨fuel, hf⟩ := h
  obtain ⟨k, o, lf, i, pt, ps, g, s, st, rs, rr, sq, l, ⟨rfl, rfl, rfl, rfl, rfl, rfl, rfl, rfl, rfl, rfl, rfl, rfl⟩, hs, hr, parts, d9, hd, h9, hb⟩ := msg_cells (by simpa [Value.cells] using hf)
  obtain ⟨ao, cap, rfl, _⟩ := hs.form
  refine ⟨k, o, lf, i, pt, ps, g, s, st, rs, rr, sq, ao, cap, l, rfl, hs, hr, fun B hB => ?_⟩
  simp only at hd
  subst hd
  rcases hb with ⟨_, rfl⟩ | ⟨e, s', rfl, he⟩
  · simp
  · rw [weights_agg Tryz.prog Tryz.underlying43] at hB
    have := List.all_eq_true.1 hB _ (DataW.weights_mem_each (t := 41) (j := 9) rfl h9 ((e.length + s'.length) * Tryz.prog.bytesOf 5) (by simp [DataW.weights, Tryz.underlying41]))
    rw [bytes5] at this
    simp at this
    omega
/-- A slice of ints that came in. -/
structure Si (w : World) (v : Value) (l : List Int) : Prop where
  form : ∃ ao cap, v = .slice ao l.length cap ∧ l.length ≤ cap ∧ cap ≤ maxLen ∧ (ao = none → cap = 0) ∧
    (l ≠ [] → ∃ b off, ao = some ⟨b, off, none⟩ ∧ ∀ j, j < l.length → w.cell? ⟨b, off + j, none⟩ = some (.int .i64 (l.getD j 0)))
  rng : ∀ n ∈ l, I64 n
theorem Si.mod {w w' : World} {v : Value} {l : List Int} (h : Si w v l) (hm : Mod (fun _ => False) w w') : Si w' v l := by
  obtain ⟨ao, cap, rfl, h1, h2, h3, h4⟩ := h.form
  refine ⟨⟨ao, cap, rfl, h1, h2, h3, fun hl => ?_⟩, h.rng⟩
  obtain ⟨b, off, rfl, hc⟩ := h4 hl
  exact ⟨b, off, rfl, fun j hj => hm.cell (hc j hj) (fun h => h)⟩
section
variable {H : Type} {enc : TypeId × Value → H} {W : World}
theorem cellsInt : Tryz.prog.cellsOf 3 = 1 := by kernel_rfl
theorem open_l {v : Value} {d : DataW H} {p : List MemPlace} (h : DataW.Trod enc Tryz.prog W 0 (fun _ => true) true 83 v d p) (hv : ∃ ao len cap, v = .slice ao len cap) : ∃ l, Si W v l := by
  obtain ⟨ao0, len0, cap0, rfl⟩ := hv
  obtain ⟨fuel, hf⟩ := h
  rcases open_ints Tryz.underlying83 Tryz.underlying3 cellsInt hf with ⟨hcs, _⟩ | ⟨a, len, cap, zs, hcs, _, hl, hm, hz, _, hcell, hwz⟩
  · simp [Value.cells] at hcs
    obtain ⟨rfl, rfl, rfl⟩ := hcs
    exact ⟨[], ⟨⟨none, 0, rfl, Nat.le_refl _, by simp [maxLen], fun _ => rfl, fun h => absurd rfl h⟩, by simp⟩⟩
  · simp [Value.cells] at hcs
    obtain ⟨rfl, rfl, rfl⟩ := hcs
    simp only [if_true] at hz
    have hlen : (zs.take len0).length = len0 := by simp; omega
    refine ⟨zs.take len0, ⟨⟨some a, cap0, by rw [hlen], by omega, hm, (by intro h; cases h), fun hne => ?_⟩, fun n hn => ?_⟩⟩
    · have h0 : 0 < len0 := by
        rcases Nat.eq_zero_or_pos len0 with h | h
        · subst h; simp at hne
        · exact h
      obtain ⟨b, off, spot⟩ := a
      have hc0 := hcell 0 (by omega)
      have hspot : spot = none := by simpa [Addr.add] using World.cell?_spot hc0
      subst hspot
      refine ⟨b, off, rfl, fun j hj => ?_⟩
      rw [hlen] at hj
      have := hcell j (by omega)
      rw [add_at] at this
      rw [this]
      simp [hj]
    · have := hwz n (List.mem_of_mem_take hn)
      exact i64_of_wf this
end
end Go.Proofs.YthiijonmnebjgaaGreat
namespace Go.Proofs.YthiijonmnebjgaaGreat
open Go.ChangeShapes Go.WideShapes Go.ChangeAt Go.RowKit
/-- A slice of data that came in. -/
structure Dts (w : World) (val : Value) (es : List (Dt × Value)) : Prop where
  form : ∃ ao cap, val = .slice ao es.length cap ∧ es.length ≤ maxLen ∧ (es ≠ [] → ∃ b off, ao = some ⟨b, off, none⟩ ∧ ∀ i e, es[i]? = some e → w.rangeAt b (off + i * 18) (dcl e.1 e.2))
  each : ∀ e ∈ es, Sl w e.2 e.1.m.body ∧ e.1.m.body.length ≤ 140737488355328
theorem Dts.mod {w w' : World} {v : Value} {es : List (Dt × Value)} (h : Dts w v es) (hm : Mod (fun _ => False) w w') : Dts w' v es := by
  obtain ⟨ao, cap, rfl, h1, h2⟩ := h.form
  refine ⟨⟨ao, cap, rfl, h1, fun hne => ?_⟩, fun e he => ⟨(h.each e he).1.mod hm (fun _ _ h => h), (h.each e he).2⟩⟩
  obtain ⟨b, off, rfl, hc⟩ := h2 hne
  exact ⟨b, off, rfl, fun i e hi t c ht => hm.cell (hc i e hi t c ht) (fun h => h)⟩
/-- A slice of messages that came in, each with a number of an int. -/
structure Mss (w : World) (val : Value) (es : List (Ms × Value)) : Prop where
  form : ∃ ao cap, val = .slice ao es.length cap ∧ es.length ≤ maxLen ∧ (es ≠ [] → ∃ b off, ao = some ⟨b, off, none⟩ ∧ ∀ i e, es[i]? = some e → w.rangeAt b (off + i * 13) (mcl e.1 e.2))
  each : ∀ e ∈ es, Sl w e.2 e.1.body ∧ e.1.body.length ≤ 140737488355328 ∧ I64 e.1.sq
theorem Mss.mod {w w' : World} {v : Value} {es : List (Ms × Value)} (h : Mss w v es) (hm : Mod (fun _ => False) w w') : Mss w' v es := by
  obtain ⟨ao, cap, rfl, h1, h2⟩ := h.form
  refine ⟨⟨ao, cap, rfl, h1, fun hne => ?_⟩, fun e he => ⟨(h.each e he).1.mod hm (fun _ _ h => h), (h.each e he).2⟩⟩
  obtain ⟨b, off, rfl, hc⟩ := h2 hne
  exact ⟨b, off, rfl, fun i e hi t c ht => hm.cell (hc i e hi t c ht) (fun h => h)⟩
section
variable {H : Type} {enc : TypeId × Value → H} {W : World}
theorem weights_all {e : TypeId} {l : List (DataW H)} {d : DataW H} (hd : d ∈ l) {n : Nat} (hn : n ∈ d.weights Tryz.prog e) : n ∈ DataW.weightsAll Tryz.prog e l := by
  induction l with
  | nil => cases hd
  | cons a r ih =>
    rw [DataW.weightsAll, List.mem_append]
    rcases List.mem_cons.1 hd with rfl | hd
    · exact .inl hn
    · exact .inr (ih hd)
theorem cellsDt : Tryz.prog.cellsOf 45 = 18 := by kernel_rfl
set_option maxRecDepth 100000 in
theorem trod_struct5 {P : Program} {w : World} {base : Nat} {spare : Nat → Bool} {held : Bool} {t : TypeId} {f0 f1 f2 f3 f4 : Field} {fuel : Nat} {cs : List Value} {x : DataW H × List MemPlace} (ht : P.underlying t = some (.struct #[f0, f1, f2, f3, f4])) (h : DataW.trod enc P w base spare held fuel t cs = some x) :
    ∃ y0 y1 y2 y3 y4 n, x.1 = .agg [y0.1, y1.1, y2.1, y3.1, y4.1] ∧ DataW.trod enc P w base spare held n f0.type ((cs.drop f0.offset).take (P.cellsOf f0.type)) = some y0 ∧ DataW.trod enc P w base spare held n f1.type ((cs.drop f1.offset).take (P.cellsOf f1.type)) = some y1 ∧ DataW.trod enc P w base spare held n f2.type ((cs.drop f2.offset).take (P.cellsOf f2.type)) = some y2 ∧ DataW.trod enc P w base spare held n f3.type ((cs.drop f3.offset).take (P.cellsOf f3.type)) = some y3 ∧ DataW.trod enc P w base spare held n f4.type ((cs.drop f4.offset).take (P.cellsOf f4.type)) = some y4 := by
  obtain ⟨xs, n, _, rfl, hl, hlen, hf⟩ := DataW.trod_struct ht h
  match xs, hlen with
  | [y0, y1, y2, y3, y4], _ => exact ⟨y0, y1, y2, y3, y4, n, rfl, by simpa using hf 0 f0 rfl, by simpa using hf 1 f1 rfl, by simpa using hf 2 f2 rfl, by simpa using hf 3 f3 rfl, by simpa using hf 4 f4 rfl⟩
theorem ring_cells {n : Nat} {c0 c1 : Value} {x : DataW H × List MemPlace} {sp : Nat → Bool} (h : DataW.trod enc Tryz.prog W 0 sp true n 38 [c0, c1] = some x) :
    ∃ q r : Int, c0 = .int .i64 q ∧ c1 = .int .i64 r ∧ (Lit.int .i64 q).wf = true ∧ (Lit.int .i64 r).wf = true := by
  obtain ⟨z0, z1, m', _, _, u0, u1⟩ := trod_struct2 Tryz.underlying38 h
  simp only [cells3, List.drop_zero, List.drop_succ_cons, List.take_succ_cons, List.take_zero] at u0 u1
  obtain ⟨k1, e1, _, w1⟩ := DataW.trod_int Tryz.underlying3 u0
  obtain ⟨k2, e2, _, w2⟩ := DataW.trod_int Tryz.underlying3 u1
  simp at e1 e2
  exact ⟨k1, k2, e1, e2, w1, w2⟩
set_option maxRecDepth 100000 in
theorem data_of_trod {n : Nat} {c0 c1 c2 c3 c4 c5 c6 c7 c8 c9 c10 c11 c12 c13 c14 c15 c16 c17 : Value} {x : DataW H × List MemPlace} (h : DataW.trod enc Tryz.prog W 0 (fun _ => true) true n 45 [c0, c1, c2, c3, c4, c5, c6, c7, c8, c9, c10, c11, c12, c13, c14, c15, c16, c17] = some x) (hsz : ∀ n ∈ x.1.weights Tryz.prog 45, n ≤ reachBytes) :
    ∃ (d : Dt) (v : Value), [c0, c1, c2, c3, c4, c5, c6, c7, c8, c9, c10, c11, c12, c13, c14, c15, c16, c17] = dcl d v ∧ Sl W v d.m.body ∧ d.m.body.length ≤ 140737488355328 := by
  obtain ⟨y0, y1, y2, y3, y4, m, hx, t0, t1, t2, t3, t4⟩ := trod_struct5 Tryz.underlying45 h
  simp only [cells3, cellsR, cellsM, List.drop_zero, List.drop_succ_cons, List.take_succ_cons, List.take_zero] at t0 t1 t2 t3 t4
  obtain ⟨q, r, rfl, rfl, wq, wr⟩ := ring_cells t0
  obtain ⟨k1, e1, _, w1⟩ := DataW.trod_int Tryz.underlying3 t1
  obtain ⟨k2, e2, _, w2⟩ := DataW.trod_int Tryz.underlying3 t2
  obtain ⟨k3, e3, _, w3⟩ := DataW.trod_int Tryz.underlying3 t3
  simp at e1 e2 e3
  obtain ⟨k, o, lf, i, pt, ps, g, s, st, rs, rr, sq, l, ⟨rfl, rfl, rfl, rfl, rfl, rfl, rfl, rfl, rfl, rfl, rfl, rfl⟩, hs, hr, parts, d9, hd, h9, hb⟩ := msg_cells t4
  subst e1 e2 e3
  refine ⟨⟨q, r, k1, k2, k3, ⟨k, o, lf, i, pt, ps, g, s, st, rs, rr, sq, l⟩⟩, c17, rfl, hs, ?_⟩
  show l.length ≤ 140737488355328
  have h2 := reachBytes_lt
  rcases hb with ⟨_, rfl⟩ | ⟨e, s', rfl, he⟩
  · simp
  · have hin : (e.length + s'.length) * Tryz.prog.bytesOf 5 ∈ y4.1.weights Tryz.prog 43 := by
      rw [hd, weights_agg Tryz.prog Tryz.underlying43]
      exact DataW.weights_mem_each (t := 41) (j := 9) rfl h9 _ (by simp [DataW.weights, Tryz.underlying41])
    have := hsz _ (by
      rw [hx, weights_agg Tryz.prog Tryz.underlying45]
      exact DataW.weights_mem_each (t := 43) (j := 4) rfl (d := y4.1) rfl _ hin)
    rw [bytes5] at this
    omega
set_option maxRecDepth 100000 in
theorem open_dts {v : Value} {d : DataW H} {p : List MemPlace} (h : DataW.Trod enc Tryz.prog W 0 (fun _ => true) true 22 v d p) (hv : ∃ ao len cap, v = .slice ao len cap) (hsz : ∀ n ∈ d.weights Tryz.prog 22, n ≤ reachBytes) :
    ∃ es, Dts W v es := by
  obtain ⟨ao0, len0, cap0, rfl⟩ := hv
  obtain ⟨fuel, hf⟩ := h
  rcases Deep.open_slice Tryz.underlying22 hf with ⟨hcs, hx⟩ | ⟨a, len, cap, m, n, D, Pl, hcs, _, hl, hm, hmm, hx, hel⟩
  · simp [Value.cells] at hcs
    obtain ⟨rfl, rfl, rfl⟩ := hcs
    exact ⟨[], ⟨⟨none, 0, rfl, by simp [maxLen], fun h => absurd rfl h⟩, by simp⟩⟩
  · simp [Value.cells] at hcs
    obtain ⟨rfl, rfl, rfl⟩ := hcs
    simp only [if_true] at hmm
    subst hmm
    rw [cellsDt] at hel
    simp only [Prod.mk.injEq] at hx
    obtain ⟨rfl, rfl⟩ := hx
    have one : ∀ i, ∃ x : Dt × Value, i < len0 → (∀ t c, (dcl x.1 x.2)[t]? = some c → W.cell? (a.add (i * 18 + t)) = some c) ∧ (Sl W x.2 x.1.m.body ∧ x.1.m.body.length ≤ 140737488355328) := by
      intro i
      by_cases hi : i < len0
      · obtain ⟨cs, hcells, ht⟩ := hel i (by omega)
        obtain ⟨_, hlen, hc⟩ := World.cells?_some hcells
        match cs, hlen with
        | [c0, c1, c2, c3, c4, c5, c6, c7, c8, c9, c10, c11, c12, c13, c14, c15, c16, c17], _ =>
          obtain ⟨dd, vv, hdc, hsl, hbl⟩ := data_of_trod ht (fun n hn => hsz n (by
            rw [DataW.weights, Tryz.underlying22]
            exact List.mem_cons_of_mem _ (List.mem_append_left _ (weights_all (List.mem_map_of_mem (List.mem_range.2 hi)) hn))))
          refine ⟨(dd, vv), fun _ => ⟨fun t c hj => ?_, hsl, hbl⟩⟩
          have ht18 := dcl_lt hj
          have q := hc t ht18
          rw [Deep.add_add] at q
          rw [q, ← hj]
          rw [← hdc]
      · exact ⟨(d0, .slice none 0 0), fun h => absurd h hi⟩
    obtain ⟨f, hfx⟩ := Classical.axiomOfChoice one
    have hdl : ((List.range len0).map f).length = len0 := by simp
    refine ⟨(List.range len0).map f, ⟨⟨some a, m, by rw [hdl], by rw [hdl]; omega, fun hne => ?_⟩, ?_⟩⟩
    · have h0 : 0 < len0 := by
        rcases Nat.eq_zero_or_pos len0 with h | h
        · subst h; simp at hne
        · exact h
      obtain ⟨b, off, spot⟩ := a
      have hc0 := (hfx 0 h0).1 0 _ rfl
      have hspot : spot = none := by simpa [Addr.add] using World.cell?_spot hc0
      subst hspot
      refine ⟨b, off, rfl, fun i d hd j c hj => ?_⟩
      have hi : i < len0 := by
        rcases Nat.lt_or_ge i len0 with h | h
        · exact h
        · rw [List.getElem?_eq_none (by rw [hdl]; exact h)] at hd; cases hd
      have ed : d = f i := by simpa [hi] using hd.symm
      subst ed
      have := (hfx i hi).1 j c hj
      simpa only [Addr.add_mid, Nat.add_assoc] using this
    · intro d hd
      obtain ⟨i, hi, rfl⟩ := List.mem_map.1 hd
      exact (hfx i (List.mem_range.1 hi)).2
theorem bytesM : Tryz.prog.bytesOf 43 = 120 := by kernel_rfl
set_option maxRecDepth 100000 in
theorem open_mss {v : Value} {d : DataW H} {p : List MemPlace} (h : DataW.Trod enc Tryz.prog W 0 (fun _ => true) true 51 v d p) (hv : ∃ ao len cap, v = .slice ao len cap) (hsz : ∀ n ∈ d.weights Tryz.prog 51, n ≤ reachBytes) :
    ∃ ds : List (Ms × Value), Mss W v ds := by
  obtain ⟨ao0, len0, cap0, rfl⟩ := hv
  obtain ⟨fuel, hf⟩ := h
  rcases Deep.open_slice Tryz.underlying51 hf with ⟨hcs, hx⟩ | ⟨a, len, cap, m, n, D, Pl, hcs, _, hl, hm, hmm, hx, hel⟩
  · simp [Value.cells] at hcs
    obtain ⟨rfl, rfl, rfl⟩ := hcs
    exact ⟨[], ⟨⟨none, 0, rfl, by simp [maxLen], fun h => absurd rfl h⟩, by simp⟩⟩
  · simp [Value.cells] at hcs
    obtain ⟨rfl, rfl, rfl⟩ := hcs
    simp only [if_true] at hmm
    subst hmm
    rw [cellsM] at hel
    simp only [Prod.mk.injEq] at hx
    obtain ⟨rfl, rfl⟩ := hx
    have h2 := reachBytes_lt
    have hlen0 : len0 ≤ 1172812402961 := by
      have := hsz ((((List.range len0).map D).length + ((List.range (m - len0)).map fun i => D (len0 + i)).length) * Tryz.prog.bytesOf 43) (by
        rw [DataW.weights, Tryz.underlying51]
        exact List.mem_cons_self ..)
      rw [bytesM] at this
      simp at this
      omega
    have one : ∀ i, ∃ x : Ms × Value, i < len0 → (∀ j c, (mcl x.1 x.2)[j]? = some c → W.cell? (a.add (i * 13 + j)) = some c) ∧ (Sl W x.2 x.1.body ∧ x.1.body.length ≤ 140737488355328 ∧ I64 x.1.sq) := by
      intro i
      by_cases hi : i < len0
      · obtain ⟨cs, hcells, ht⟩ := hel i (by omega)
        obtain ⟨_, hlen, hc⟩ := World.cells?_some hcells
        match cs, hlen with
        | [c0, c1, c2, c3, c4, c5, c6, c7, c8, c9, c10, c11, c12], _ =>
          obtain ⟨k, o, lf, id, pt, ps, g, s, st, rs, rr, sq, l, ⟨rfl, rfl, rfl, rfl, rfl, rfl, rfl, rfl, rfl, rfl, rfl, rfl⟩, hs, hrr, parts, d9, hd, h9, hb⟩ := msg_cells ht
          refine ⟨(⟨k, o, lf, id, pt, ps, g, s, st, rs, rr, sq, l⟩, c12), fun _ => ⟨fun j c hj => ?_, hs, ?_, hrr.2.2.2.2.2.2.2.2.2.2⟩⟩
          · have hj13 : j < 13 := by
              rcases Nat.lt_or_ge j 13 with h | h
              · exact h
              · rw [List.getElem?_eq_none (by exact h)] at hj; cases hj
            have q := hc j hj13
            rw [Deep.add_add] at q
            rw [q]
            exact hj
          · rcases hb with ⟨_, rfl⟩ | ⟨e, s', rfl, he⟩
            · simp
            · have hn : (e.length + s'.length) * Tryz.prog.bytesOf 5 ∈ (D i).weights Tryz.prog 43 := by
                have hd2 : D i = .agg parts := hd
                rw [hd2, weights_agg Tryz.prog Tryz.underlying43]
                exact DataW.weights_mem_each (t := 41) (j := 9) rfl h9 ((e.length + s'.length) * Tryz.prog.bytesOf 5) (by simp [DataW.weights, Tryz.underlying41])
              have := hsz _ (by
                rw [DataW.weights, Tryz.underlying51]
                exact List.mem_cons_of_mem _ (List.mem_append_left _ (weights_all (List.mem_map_of_mem (List.mem_range.2 hi)) hn)))
              rw [bytes5] at this
              show l.length ≤ 140737488355328
              omega
      · exact ⟨(⟨0, 0, 0, 0, 0, 0, 0, false, 0, 0, 0, 0, []⟩, .slice none 0 0), fun h => absurd h hi⟩
    obtain ⟨f, hfx⟩ := Classical.axiomOfChoice one
    have hdl : ((List.range len0).map f).length = len0 := by simp
    refine ⟨(List.range len0).map f, ⟨⟨some a, m, by rw [hdl], by rw [hdl]; exact Nat.le_trans hlen0 (by decide), fun hne => ?_⟩, ?_⟩⟩
    · have h0 : 0 < len0 := by
        rcases Nat.eq_zero_or_pos len0 with h | h
        · subst h; simp at hne
        · exact h
      obtain ⟨b, off, spot⟩ := a
      have hc0 := (hfx 0 h0).1 0 _ rfl
      have hspot : spot = none := by simpa [Addr.add] using World.cell?_spot hc0
      subst hspot
      refine ⟨b, off, rfl, fun i d hd j c hj => ?_⟩
      have hi : i < len0 := by
        rcases Nat.lt_or_ge i len0 with h | h
        · exact h
        · rw [List.getElem?_eq_none (by rw [hdl]; exact h)] at hd; cases hd
      have ed : d = f i := by simpa [hi] using hd.symm
      subst ed
      have := (hfx i hi).1 j c hj
      simpa only [Addr.add_mid, Nat.add_assoc] using this
    · intro d hd
      obtain ⟨i, hi, rfl⟩ := List.mem_map.1 hd
      exact (hfx i (List.mem_range.1 hi)).2
end
/-- Both windows, side by side. -/
structure Pq (w wr : World) (p q : Nat) (J : Int → Option Dt) (L : List Dt) (X Y : Nat → Prop) (a hp hd : Int) (k m : Nat) : Prop where
  wn : Wn wr p X J a hp k
  dw : Dwn wr q Y L hd
  len : L.length ≤ m
  sep : ∀ i, X i → ¬ Y i
  xn : ∀ i, X i → w.heap.size ≤ i
  yn : ∀ i, Y i → w.heap.size ≤ i
  mod : Mod (fun _ => False) w wr
theorem Pq.by {w wr w' : World} {p q : Nat} {J : Int → Option Dt} {L : List Dt} {X Y : Nat → Prop} {a hp hd : Int} {k m : Nat} (h : Pq w wr p q J L X Y a hp hd k m) {S : Nat → Prop} (hm : Mod S wr w') (hX : ∀ i, X i → ¬ S i) (hY : ∀ i, Y i → ¬ S i) (hS : ∀ i, S i → w.heap.size ≤ i) : Pq w w' p q J L X Y a hp hd k m :=
  ⟨h.wn.mod hm hX, h.dw.mod hm hY, h.len, h.sep, h.xn, h.yn, h.mod.trans hm (fun _ _ h => h) (fun i hi hs => by have := hS i hs; omega)⟩
theorem Pq.keep {w wr w' : World} {p q : Nat} {J : Int → Option Dt} {L : List Dt} {X Y : Nat → Prop} {a hp hd : Int} {k m : Nat} (h : Pq w wr p q J L X Y a hp hd k m) (hm : Mod (fun _ => False) wr w') : Pq w w' p q J L X Y a hp hd k m := h.by hm (fun _ _ h => h) (fun _ _ h => h) (fun _ h => h.elim)
theorem Pq.xlt {w wr : World} {p q : Nat} {J : Int → Option Dt} {L : List Dt} {X Y : Nat → Prop} {a hp hd : Int} {k m : Nat} (h : Pq w wr p q J L X Y a hp hd k m) : ∀ i, X i → i < wr.heap.size := h.wn.mem.lt
theorem Pq.ylt {w wr : World} {p q : Nat} {J : Int → Option Dt} {L : List Dt} {X Y : Nat → Prop} {a hp hd : Int} {k m : Nat} (h : Pq w wr p q J L X Y a hp hd k m) : ∀ i, Y i → i < wr.heap.size := h.dw.lt
theorem pq_new (w : World) : Calls Tryz.prog 27 #[] w fun e w1 => ∃ p, e = .returned (.pointer (some ⟨p, 0, none⟩)) ∧ Calls Tryz.prog 29 #[] w1 fun e w2 => ∃ q X Y, e = .returned (.pointer (some ⟨q, 0, none⟩)) ∧ Pq w w2 p q (jl []) [] X Y 0 0 0 0 0 := by
  refine (wNew w).mono ?_
  rintro e w1 ⟨p, X, rfl, h1, h2, h3⟩
  refine ⟨p, rfl, (dNew w1).mono ?_⟩
  rintro e w2 ⟨q, Y, rfl, h4, h5, h6⟩
  refine ⟨q, X, Y, rfl, ⟨h1.keep h6, h4, Nat.le_refl _, fun i hx hy => ?_, h2, fun i hy => ?_, h3.and h6⟩⟩
  · have a1 := h1.mem.lt i hx
    have a2 := h5 i hy
    omega
  · have a2 := h5 i hy
    have a3 := h3.size
    omega
theorem pq_put {w wr : World} {p q : Nat} {J : Int → Option Dt} {L : List Dt} {X Y : Nat → Prop} {a hp hd : Int} {k m : Nat} (h : Pq w wr p q J L X Y a hp hd k m) (hk : k < 1000) (d : Dt) (v : Value) (hs : Sl wr v d.m.body) (hb : d.m.body.length ≤ 140737488355328) :
    Calls Tryz.prog 11 #[.pointer (some ⟨p, 0, none⟩), dv d v] wr fun e w' => ∃ X' a', e = .returned (.tuple #[.bool (pF J d), .int .i64 (pE d)]) ∧ Pq w w' p q (pJ J d) L X' Y a' (pH J hp d) hd (k + 1) m ∧ Mod X wr w' ∧ Gone wr X X' := by
  refine (Put_any h.wn d v hs hb (by omega)).mono ?_
  rintro e w' ⟨X', a', rfl, h1, h2, h3, h4⟩
  refine ⟨X', a', rfl, ⟨h1, h.dw.mod h3 (fun i hy hx => h.sep i hx hy), h.len, fun i hx hy => ?_, fun i hx => ?_, h.yn, h.mod.trans h3 (fun _ _ h => h) (fun i hi hs => by have := h.xn i hs; omega)⟩, h3, h4⟩
  · have := h.dw.lt i hy
    rcases h4 i hx with hx | hx
    · exact h.sep i hx hy
    · omega
  · have := h.mod.size
    rcases h4 i hx with hx | hx
    · exact h.xn i hx
    · omega
theorem pL_len (L : List Dt) (d : Dt) : (pL L d).length ≤ L.length + 1 := by
  unfold pL
  split <;> simp
theorem pq_dput {w wr : World} {p q : Nat} {J : Int → Option Dt} {L : List Dt} {X Y : Nat → Prop} {a hp hd : Int} {k m : Nat} (h : Pq w wr p q J L X Y a hp hd k m) (hm : m < 1000) (d : Dt) (v : Value) (hs : Sl wr v d.m.body) (hb : d.m.body.length ≤ 140737488355328) :
    Calls Tryz.prog 30 #[.pointer (some ⟨q, 0, none⟩), dv d v] wr fun e w' => ∃ Y', e = .returned (.tuple #[.bool (pF (jl L) d), .int .i64 (pE d)]) ∧ Pq w w' p q J (pL L d) X Y' a hp (pH (jl L) hd d) k (m + 1) ∧ Mod Y wr w' ∧ Gone wr Y Y' := by
  refine (dPut_any h.dw (by have := h.len; omega) d v hs hb).mono ?_
  rintro e w' ⟨Y', rfl, h1, h3, h4⟩
  refine ⟨Y', rfl, ⟨h.wn.mod h3 (fun i hx hy => h.sep i hx hy), h1, by have := h.len; have := pL_len L d; omega, fun i hx hy => ?_, h.xn, fun i hy => ?_, h.mod.trans h3 (fun _ _ h => h) (fun i hi hs => by have := h.yn i hs; omega)⟩, h3, h4⟩
  · have := h.wn.mem.lt i hx
    rcases h4 i hy with hy | hy
    · exact h.sep i hx hy
    · omega
  · have := h.mod.size
    rcases h4 i hy with hy | hy
    · exact h.yn i hy
    · omega
/-- What holds at a round's start. -/
structure Rs (w wr : World) (p q k : Nat) : Prop where
  ex : ∃ L X Y a h, Pq w wr p q (jl L) L X Y a h h k k ∧ Dis L
theorem Rs.mono {w wr : World} {p q k k' : Nat} (h : Rs w wr p q k) (hk : k ≤ k') : Rs w wr p q k' := by
  obtain ⟨L, X, Y, a, hh, h1, h2⟩ := h.ex
  obtain ⟨B, V, N, b1, b2, b3, b4, b5⟩ := h1.wn.mem.blk
  exact ⟨L, X, Y, a, hh, ⟨⟨⟨⟨B, V, N, b1, b2, by omega, b4, b5⟩, h1.wn.mem.px, h1.wn.mem.lt⟩, h1.wn.wp⟩, h1.dw, by have := h1.len; omega, h1.sep, h1.xn, h1.yn, h1.mod⟩, h2⟩
set_option maxRecDepth 100000 in
set_option maxHeartbeats 8000000 in
theorem windows_any (val : Value) (es : List (Dt × Value)) (w : World) (hD : Dts w val es) : Calls Tryz.prog 6 #[val] w fun e w' => ∃ p q, e = .returned (.tuple #[.pointer (some ⟨p, 0, none⟩), .pointer (some ⟨q, 0, none⟩)]) ∧ Rs w w' p q 60 := by
  have HD : Hid (Dts w val es) := hD
  obtain ⟨av, cv, rfl, hlm, _⟩ := hD.form
  have hlI : (es.length : Int) ≤ 9223372036854775807 := by simp only [maxLen] at hlm; omega
  clear hD hlm
  go_enter Tryz.func6, Tryz.ntmps6
  go_wp2_with (fail)
  refine (pq_new w).mono ?_
  rintro e w1 ⟨p, rfl, HN⟩
  go_wp2_with (fail)
  refine HN.mono ?_
  rintro e w2 ⟨q, X, Y, rfl, hP⟩
  have HR : Hid (Rs w w2 p q 0) := ⟨_, _, _, _, _, hP, Dis.nil⟩
  clear hP HN
  go_wp2_with (fail)
  go_loopw [6] (fun i wr => ∃ k : Nat, i = .int .i64 (k : Int) ∧ k ≤ 60 ∧ Hid (Rs w wr p q k)) (fun i _ => 60 - (intOf i).toNat)
  case atStart => exact ⟨0, rfl, Nat.zero_le _, HR.out⟩
  case round =>
    obtain ⟨k, rfl, hk, hrs⟩ := hrel
    have hk60 : (k : Int) ≤ 60 := by omega
    have hk0 : (0 : Int) ≤ (k : Int) := by omega
    by_cases hg : k < es.length ∧ k < 60
    · have hg1 : (k : Int) < (es.length : Int) := by omega
      have hg2 : (k : Int) < 60 := by omega
      have HG : Hid (k < es.length ∧ k < 60) := hg
      obtain ⟨L, X, Y, a, hh, hP, hDs⟩ := hrs.out.ex
      obtain ⟨x, hx⟩ : ∃ x, es[k]? = some x := ⟨es[k], List.getElem?_eq_getElem hg.1⟩
      have hDr := HD.out.mod hP.mod
      obtain ⟨hsl, hbl⟩ := hDr.each x (List.mem_of_getElem? hx)
      obtain ⟨av', cv', e, _, hc⟩ := hDr.form
      cases e
      obtain ⟨b, off, rfl, hrg⟩ := hc (by intro e; rw [e] at hx; simp at hx)
      have hra := hrg k x hx
      obtain ⟨d, v⟩ := x
      simp only at hsl hbl hra
      obtain ⟨ax, cx, rfl⟩ := hsl.shape
      have HX : Hid (es[k]? = some (d, .slice ax d.m.body.length cx)) := hx
      have HPU := pq_put hP (by have := HG.out.2; omega) d _ hsl hbl
      unfold dv at HPU
      have HDs : Hid (Dis L) := hDs
      clear hP hDs hDr hc hrg hx hg hsl hbl
      go_wp2_with (first | (refine wpList_load_at info18 Tryz.underlying45 rfl rfl _ rfl b (off + k * 18) rfl _ hra rfl ?_; unfold dcl; simp only [Act.put, List.setIfInBounds_toArray, List.set_cons_succ, List.set_cons_zero]))
      refine HPU.mono ?_
      rintro e w3 ⟨X3, a3, rfl, hP3, -, -⟩
      have hDr := HD.out.mod hP3.mod
      obtain ⟨hsl, hbl⟩ := hDr.each _ (List.mem_of_getElem? HX.out)
      obtain ⟨av', cv', e, _, hc⟩ := hDr.form
      cases e
      obtain ⟨b', off', e', hrg⟩ := hc (by intro e; have := HX.out; rw [e] at this; simp at this)
      cases e'
      have hra3 := hrg k _ HX.out
      simp only at hsl hbl hra3
      have HDP := pq_dput hP3 (by have := HG.out.2; omega) d _ hsl hbl
      unfold dv at HDP
      clear hP3 hDr hc hrg hsl hbl hra HPU
      go_wp2_with (first | (refine wpList_load_at info18 Tryz.underlying45 rfl rfl _ rfl b (off + k * 18) rfl _ hra3 rfl ?_; unfold dcl; simp only [Act.put, List.setIfInBounds_toArray, List.set_cons_succ, List.set_cons_zero]))
      refine HDP.mono ?_
      rintro e w4 ⟨Y4, rfl, hP4, -, -⟩
      rw [← pL_jl] at hP4
      have HR4 : Hid (Rs w w4 p q (k + 1)) := ⟨_, _, _, _, _, hP4, HDs.out.pL⟩
      clear hP4 HDP hra3
      go_wp2
      go_roundw
      case rel => exact ⟨k + 1, by go_num, HG.out.2, HR4.out⟩
      case measure =>
        have := HG.out
        simp [intOf]
        omega
    · have HRE : Hid (Rs w wr p q 60) := hrs.out.mono hk
      by_cases h1 : k < es.length
      · have hg1 : (k : Int) < (es.length : Int) := by omega
        have hg2 : ¬ (k : Int) < 60 := by omega
        clear hg h1
        go_wp2
        go_ret2
        exact ⟨p, q, rfl, HRE.out⟩
      · have hg1 : ¬ (k : Int) < (es.length : Int) := by omega
        clear hg h1
        go_wp2
        go_ret2
        exact ⟨p, q, rfl, HRE.out⟩
end Go.Proofs.YthiijonmnebjgaaGreat
namespace Go.Proofs.YthiijonmnebjgaaGreat
open Go.RowKit
def tkL (L : List Dt) (m : Ms) (oq oR : Int) : List Dt := if tkY m oq oR then pL L (inD m) else L
set_option maxRecDepth 100000 in
set_option maxHeartbeats 8000000 in
theorem dTake_w {w : World} {p : Nat} {X : Nat → Prop} {L : List Dt} {top : Int} (hw : Dwn w p X L top) (oq oR : Int) (m : Ms) (v : Value) (hs : Sl w v m.body) (hN : L.length ≤ 100000) : Calls Tryz.prog 18 #[.pointer (some ⟨p, 0, none⟩), .agg #[.int .i64 oq, .int .i64 oR], mvl m v] w fun e w' => ∃ X', e = .returned (.tuple #[.bool (tkB (jl L) m oq oR), .int .i64 (tkE m oq oR)]) ∧ Dwn w' p X' (tkL L m oq oR) (tkH (jl L) top m oq oR) ∧ Mod X w w' ∧ Gone w X X' := by
  obtain ⟨ao, cap, rfl⟩ := hs.shape
  obtain ⟨k, o, lf, i, pt, ps, g, s, st, rs, rr, sq, l⟩ := m
  simp only at hs ⊢
  have hA := ((Mod.refl (fun _ => False) w).alloc (.cells #[.int .i64 oq, .int .i64 oR] 38)).alloc (.cells #[.int .i64 k, .int .i64 o, .int .i64 lf, .int .i64 i, .int .i64 pt, .int .i64 ps, .int .i64 g, .bool s, .int .i64 st, .int .i64 rs, .int .i64 rr, .int .i64 sq, .slice ao l.length cap] 43)
  have HI := dInner k o lf i pt ps g s st rs rr sq ao cap l _ (hs.mod hA (fun _ _ h => h))
  have hB1 := (Bk.new w #[.int .i64 oq, .int .i64 oR] 38).mod ((Mod.refl (fun _ => False) _).alloc (.cells #[.int .i64 k, .int .i64 o, .int .i64 lf, .int .i64 i, .int .i64 pt, .int .i64 ps, .int .i64 g, .bool s, .int .i64 st, .int .i64 rs, .int .i64 rr, .int .i64 sq, .slice ao l.length cap] 43)) (fun h => h)
  have hB2 := Bk.new2 w (.cells #[.int .i64 oq, .int .i64 oR] 38) #[.int .i64 k, .int .i64 o, .int .i64 lf, .int .i64 i, .int .i64 pt, .int .i64 ps, .int .i64 g, .bool s, .int .i64 st, .int .i64 rs, .int .i64 rr, .int .i64 sq, .slice ao l.length cap] 43
  have HA : Hid (Mod _ _ _) := hA
  have HW : Hid (Dwn w p X L top) := hw
  have HB1 : Hid (Bk _ _ _ _) := hB1
  have HRL : Hid (∀ c ∈ l, 0 ≤ c ∧ c ≤ 255) := hs.rng
  have HNN : Hid (L.length ≤ 100000) := hN
  have HI2 : Hid (∀ m : Ms, inE m ≠ 0 → inE m = 2) := fun m h => by
    unfold inE at h ⊢
    split at h
    · exact absurd rfl h
    · rw [if_neg (by assumption)]
  unfold mvl
  clear hA hw hB1 hs hN
  go_enter Tryz.func18, Tryz.ntmps18
  go_wp2_with (first | (refine wpList_load_row infoM Tryz.underlying43 rfl rfl _ rfl (w.heap.size + 1) rfl hB2 rfl ?_; simp only [Act.put, List.setIfInBounds_toArray, List.set_cons_succ, List.set_cons_zero]))
  refine HI.mono ?_
  rintro e w3 ⟨dq, dr, dn, ds, dt, k', o', lf', i', p', ps', g', s', st', rs', rr', sq', bv, rfl, hm, hy, hn⟩
  have HM3 : Hid (Mod (fun _ => False) w w3) := HA.out.and hm
  have HB3 : Hid (Bk w3 w.heap.size 38 #[.int .i64 oq, .int .i64 oR]) := HB1.out.mod hm (fun h => h)
  have HSZ : Hid (w.heap.size + 2 ≤ w3.heap.size) := by have := hm.size; simp at this; exact this
  by_cases hz : inE ⟨k, o, lf, i, pt, ps, g, s, st, rs, rr, sq, l⟩ = 0
  · obtain ⟨⟨E1, E2, E3, E4, E5⟩, eM, ho, hg⟩ := hy hz
    replace E1 := E1.symm
    replace E2 := E2.symm
    replace E3 := E3.symm
    replace E4 := E4.symm
    replace E5 := E5.symm
    subst E1 E2 E3 E4 E5
    obtain ⟨hbl, hbr⟩ := inE_body (m := ⟨k, o, lf, i, pt, ps, g, s, st, rs, rr, sq, l⟩) HRL.out hz
    simp only at hbl hbr
    obtain ⟨av, cv, rfl⟩ := ho.shape
    have e1 := congrArg Ms.kind eM
    have e2 := congrArg Ms.origin eM
    have e3 := congrArg Ms.life eM
    have e4 := congrArg Ms.id eM
    have e5 := congrArg Ms.part eM
    have e6 := congrArg Ms.parts eM
    have e7 := congrArg Ms.groups eM
    have e8 := congrArg Ms.safe eM
    have e9 := congrArg Ms.st eM
    have e10 := congrArg Ms.rs eM
    have e11 := congrArg Ms.rr eM
    have e12 := congrArg Ms.sq eM
    simp only at e1 e2 e3 e4 e5 e6 e7 e8 e9 e10 e11 e12
    subst e1 e2 e3 e4 e5 e6 e7 e8 e9 e10 e11 e12
    have HZ : Hid (inE ⟨k, o, lf, i, pt, ps, g, s, st, rs, rr, sq, l⟩ = 0) := hz
    rw [hz]
    have HOW : Hid (Own w3 (.slice av (prM l).body.length cv) (prM l).body ∧ (prM l).body.length ≤ 140737488355328 ∧ (∀ c ∈ (prM l).body, 0 ≤ c ∧ c ≤ 255)) := ⟨ho, hbl, hbr⟩
    clear hz hy hn eM ho hg hbl hbr hm HI hB2
    go_upto_region 2 with (refine wpList_store_row info18 rfl rfl _ _ rfl w3.heap.size #[.int .i64 rs, .int .i64 rr, .int .i64 sq, .int .i64 i, .int .i64 st, .int .i64 (prM l).kind, .int .i64 (prM l).origin, .int .i64 (prM l).life, .int .i64 (prM l).id, .int .i64 (prM l).part, .int .i64 (prM l).parts, .int .i64 (prM l).groups, .bool (prM l).safe, .int .i64 (prM l).st, .int .i64 (prM l).rs, .int .i64 (prM l).rr, .int .i64 (prM l).sq, .slice av (prM l).body.length cv] rfl rfl (Bk.new w3 _ _) rfl rfl rfl ?_; intro w4 hB4 hm4)
    have HM34 : Hid (Mod (fun _ => False) w3 w4) := ((Mod.refl (fun _ => False) w3).alloc _).trans hm4 (V := fun _ => False) (fun _ _ h => h) (fun i hi e => by omega)
    have HM4 : Hid (Mod (fun _ => False) w w4) := HM3.out.and HM34.out
    have hB34 := HB3.out.mod HM34.out (fun h => h)
    have q0 : w4.cell? ⟨w.heap.size, 0, none⟩ = some (.int .i64 oq) := hB34.cellv (j := 0) rfl
    have q1 : w4.cell? ⟨w.heap.size, 1, none⟩ = some (.int .i64 oR) := hB34.cellv (j := 1) rfl
    obtain ⟨db, edb⟩ : ∃ db, db = w3.heap.size := ⟨_, rfl⟩
    rw [← edb] at hB4 ⊢
    have d0' : w4.cell? ⟨db, 0, none⟩ = some (.int .i64 rs) := hB4.cellv (j := 0) rfl
    have d1' : w4.cell? ⟨db, 1, none⟩ = some (.int .i64 rr) := hB4.cellv (j := 1) rfl
    have HB4 : Hid (Bk _ _ _ _) := hB4
    clear hm4 hB34 hB4 edb
    obtain ⟨b, hb⟩ : ∃ b, (!(decide (rs = oq) && decide (rr = oR))) = b := ⟨_, rfl⟩
    have HBB : Hid ((!(decide (rs = oq) && decide (rr = oR))) = b) := hb
    clear hb
    cases b with
    | true =>
      have HR : Hid (tkR ⟨k, o, lf, i, pt, ps, g, s, st, rs, rr, sq, l⟩ oq oR = false) := by
        show _ = _
        have := HBB.out
        unfold tkR
        cases h1 : (decide (rs = oq) && decide (rr = oR)) with
        | false => rfl
        | true => rw [h1] at this; cases this
      go_wp2_with (refine wpList_val (by rfl) (exR rfl rfl rfl HBB.out) ?_; simp only [Act.put, List.setIfInBounds_toArray, List.set_cons_succ, List.set_cons_zero])
      go_ret2
      refine ⟨X, ?_, ?_, HM4.out.none, Gone.self _ _⟩
      · simp [tkB, tkE, tkY, HZ.out, HR.out]
      · simp only [tkL, tkH, tkY, HR.out, Bool.and_false, Bool.false_eq_true, if_false]
        exact HW.out.keep HM4.out
    | false =>
      have HR : Hid (tkR ⟨k, o, lf, i, pt, ps, g, s, st, rs, rr, sq, l⟩ oq oR = true) := by
        show _ = _
        have := HBB.out
        simpa [tkR] using this
      have HP := dPut_any (HW.out.keep HM4.out) HNN.out (inD ⟨k, o, lf, i, pt, ps, g, s, st, rs, rr, sq, l⟩) (.slice av (prM l).body.length cv) ((HOW.out.1.sl HOW.out.2.2).mod HM34.out (fun _ _ h => h)) HOW.out.2.1
      rw [show dv (inD ⟨k, o, lf, i, pt, ps, g, s, st, rs, rr, sq, l⟩) (.slice av (prM l).body.length cv) = .agg #[.int .i64 rs, .int .i64 rr, .int .i64 sq, .int .i64 i, .int .i64 st, .int .i64 (prM l).kind, .int .i64 (prM l).origin, .int .i64 (prM l).life, .int .i64 (prM l).id, .int .i64 (prM l).part, .int .i64 (prM l).parts, .int .i64 (prM l).groups, .bool (prM l).safe, .int .i64 (prM l).st, .int .i64 (prM l).rs, .int .i64 (prM l).rr, .int .i64 (prM l).sq, .slice av (prM l).body.length cv] from rfl] at HP
      have hB4 := HB4.out
      go_wp2_with (first | (refine wpList_val (by rfl) (exR rfl rfl rfl HBB.out) ?_; simp only [Act.put, List.setIfInBounds_toArray, List.set_cons_succ, List.set_cons_zero]) | (refine wpList_load_row info18 Tryz.underlying45 rfl rfl _ rfl db rfl hB4 rfl ?_; simp only [Act.put, List.setIfInBounds_toArray, List.set_cons_succ, List.set_cons_zero]))
      refine HP.mono ?_
      rintro e w5 ⟨X', rfl, hw5, hm5, hgo⟩
      have HE : Hid (Dwn w5 p X' _ _ ∧ Mod X w4 w5 ∧ Gone w4 X X') := ⟨hw5, hm5, hgo⟩
      clear hw5 hm5 hgo HP hB4
      go_wp2
      go_ret2
      obtain ⟨hw5, hm5, hgo⟩ := HE.out
      refine ⟨X', ?_, ?_, HM4.out.none.trans hm5 (V := X) (fun _ _ h => h) (fun _ _ h => h), fun i hi => ?_⟩
      · simp [tkB, tkE, tkY, HZ.out, HR.out]
      · simp only [tkL, tkH, tkY, HR.out, HZ.out, Bool.and_self, beq_self_eq_true, if_true]
        exact hw5
      · rcases hgo i hi with h | h
        · exact .inl h
        · have := HM4.out.size
          exact .inr (by omega)
  · obtain ⟨rfl, rfl, rfl, rfl, rfl, rfl, rfl, rfl, rfl, rfl, rfl, rfl, rfl, rfl, rfl, rfl, rfl, rfl⟩ := hn hz
    obtain ⟨z, ez⟩ : ∃ z, inE ⟨k, o, lf, i, pt, ps, g, s, st, rs, rr, sq, l⟩ = z := ⟨_, rfl⟩
    have HZ : Hid (inE ⟨k, o, lf, i, pt, ps, g, s, st, rs, rr, sq, l⟩ = z ∧ z ≠ 0) := ⟨ez, ez ▸ hz⟩
    rw [ez]
    have hb1 : (z != 0) = true := by simpa [ez] using hz
    have hb2 : decide (z = 0) = false := by simpa [ez] using hz
    have hb3 : (z == 0) = false := by simpa [ez] using hz
    clear hz ez hy hn hm HI hB2
    go_wp2_with (refine wpList_store_row info18 rfl rfl _ _ rfl w3.heap.size #[.int .i64 0, .int .i64 0, .int .i64 0, .int .i64 0, .int .i64 0, .int .i64 0, .int .i64 0, .int .i64 0, .int .i64 0, .int .i64 0, .int .i64 0, .int .i64 0, .bool false, .int .i64 0, .int .i64 0, .int .i64 0, .int .i64 0, .slice none 0 0] rfl rfl (Bk.new w3 _ _) rfl rfl rfl ?_; intro w4 hB4 hm4)
    go_ret2
    have hM : Mod (fun _ => False) w w4 := (HM3.out.alloc _).trans hm4 (V := fun _ => False) (fun _ _ h => h) (fun i hi e => by have := HM3.out.size; omega)
    have hz := HZ.out
    have h2 : z = 2 := by rw [← hz.1]; exact HI2.out _ (by rw [hz.1]; exact hz.2)
    refine ⟨X, ?_, ?_, hM.none, Gone.self _ _⟩
    · simp [tkB, tkE, tkY, hz.1, h2]
    · simp only [tkL, tkH, tkY, hz.1, show (z == 0) = false by simpa using hz.2, Bool.false_and, Bool.false_eq_true, if_false]
      exact HW.out.keep hM
theorem tkL_jl (L : List Dt) (m : Ms) (oq oR : Int) : jl (tkL L m oq oR) = tkJ (jl L) m oq oR := by
  unfold tkL tkJ
  split
  · exact pL_jl L _
  · rfl
theorem tkL_len (L : List Dt) (m : Ms) (oq oR : Int) : (tkL L m oq oR).length ≤ L.length + 1 := by
  unfold tkL
  split
  · exact pL_len L _
  · omega
theorem Dis.tk {L : List Dt} (h : Dis L) (m : Ms) (oq oR : Int) : Dis (tkL L m oq oR) := by
  unfold tkL
  split
  · exact h.pL
  · exact h
theorem pq_take {w wr : World} {p q : Nat} {J : Int → Option Dt} {L : List Dt} {X Y : Nat → Prop} {a hp hd : Int} {k m : Nat} (h : Pq w wr p q J L X Y a hp hd k m) (hk : k < 1000) (oq oR : Int) (d : Ms) (v : Value) (hs : Sl wr v d.body) :
    Calls Tryz.prog 17 #[.pointer (some ⟨p, 0, none⟩), .agg #[.int .i64 oq, .int .i64 oR], mvl d v] wr fun e w' => ∃ X' a', e = .returned (.tuple #[.bool (tkB J d oq oR), .int .i64 (tkE d oq oR)]) ∧ Pq w w' p q (tkJ J d oq oR) L X' Y a' (tkH J hp d oq oR) hd (k + 1) m ∧ Mod X wr w' := by
  refine (Take_w h.wn oq oR d v hs (by omega)).mono ?_
  rintro e w' ⟨X', a', rfl, h1, h2, h3, h4⟩
  refine ⟨X', a', rfl, ⟨h1, h.dw.mod h3 (fun i hy hx => h.sep i hx hy), h.len, fun i hx hy => ?_, fun i hx => ?_, h.yn, h.mod.trans h3 (fun _ _ h => h) (fun i hi hs => by have := h.xn i hs; omega)⟩, h3⟩
  · have := h.dw.lt i hy
    rcases h4 i hx with hx | hx
    · exact h.sep i hx hy
    · omega
  · have := h.mod.size
    rcases h4 i hx with hx | hx
    · exact h.xn i hx
    · omega
theorem pq_dtake {w wr : World} {p q : Nat} {J : Int → Option Dt} {L : List Dt} {X Y : Nat → Prop} {a hp hd : Int} {k m : Nat} (h : Pq w wr p q J L X Y a hp hd k m) (hm : m < 1000) (oq oR : Int) (d : Ms) (v : Value) (hs : Sl wr v d.body) :
    Calls Tryz.prog 18 #[.pointer (some ⟨q, 0, none⟩), .agg #[.int .i64 oq, .int .i64 oR], mvl d v] wr fun e w' => ∃ Y', e = .returned (.tuple #[.bool (tkB (jl L) d oq oR), .int .i64 (tkE d oq oR)]) ∧ Pq w w' p q J (tkL L d oq oR) X Y' a hp (tkH (jl L) hd d oq oR) k (m + 1) ∧ Mod Y wr w' := by
  refine (dTake_w h.dw oq oR d v hs (by have := h.len; omega)).mono ?_
  rintro e w' ⟨Y', rfl, h1, h3, h4⟩
  refine ⟨Y', rfl, ⟨h.wn.mod h3 (fun i hx hy => h.sep i hx hy), h1, by have := h.len; have := tkL_len L d oq oR; omega, fun i hx hy => ?_, h.xn, fun i hy => ?_, h.mod.trans h3 (fun _ _ h => h) (fun i hi hs => by have := h.yn i hs; omega)⟩, h3⟩
  · have := h.wn.mem.lt i hx
    rcases h4 i hy with hy | hy
    · exact h.sep i hx hy
    · omega
  · have := h.mod.size
    rcases h4 i hy with hy | hy
    · exact h.yn i hy
    · omega
end Go.Proofs.YthiijonmnebjgaaGreat
namespace Go.Proofs.YthiijonmnebjgaaGreat
open Go.ChangeShapes Go.WideShapes Go.ChangeAt Go.RowKit
variable {H : Type} {enc : TypeId × Value → H} {W : World}
theorem trod_fld {P : Program} {w : World} {base : Nat} {spare : Nat → Bool} {held : Bool} {t : TypeId} {fs : Array Field} {fuel : Nat} {cs : List Value} {x : DataW H × List MemPlace} (ht : P.underlying t = some (.struct fs)) (h : DataW.trod enc P w base spare held fuel t cs = some x) :
    ∃ n, ∀ (i : Nat) (f : Field), fs[i]? = some f → ∃ y, DataW.trod enc P w base spare held n f.type ((cs.drop f.offset).take (P.cellsOf f.type)) = some y := by
  obtain ⟨xs, n, _, _, _, hlen, hf⟩ := DataW.trod_struct ht h
  refine ⟨n, fun i f hi => ?_⟩
  have hlt : i < xs.length := by rw [hlen]; exact (Array.getElem?_eq_some_iff.1 hi).1
  rw [hf i f hi, List.getElem?_eq_getElem hlt]
  exact ⟨_, rfl⟩
theorem trodS2 {P : Program} {w : World} {base : Nat} {spare : Nat → Bool} {held : Bool} {t : TypeId} {f0 f1 : Field} {fuel : Nat} {cs : List Value} {x : DataW H × List MemPlace} (ht : P.underlying t = some (.struct #[f0, f1])) (h : DataW.trod enc P w base spare held fuel t cs = some x) :
    ∃ y0 y1 n, DataW.trod enc P w base spare held n f0.type ((cs.drop f0.offset).take (P.cellsOf f0.type)) = some y0 ∧ DataW.trod enc P w base spare held n f1.type ((cs.drop f1.offset).take (P.cellsOf f1.type)) = some y1 := by
  obtain ⟨n, hf⟩ := trod_fld ht h
  obtain ⟨y0, t0⟩ := hf 0 f0 rfl
  obtain ⟨y1, t1⟩ := hf 1 f1 rfl
  exact ⟨y0, y1, n, t0, t1⟩
theorem int_cell {n : Nat} {c : Value} {y : DataW H × List MemPlace} (h : DataW.trod enc Tryz.prog W 0 (fun _ => true) true n 3 [c] = some y) : ∃ k, c = .int .i64 k ∧ I64 k := by
  obtain ⟨k, e, _, w⟩ := DataW.trod_int Tryz.underlying3 h
  simp at e
  exact ⟨k, e, i64_of_wf w⟩
theorem ring_cell {n : Nat} {c0 c1 : Value} {y : DataW H × List MemPlace} (h : DataW.trod enc Tryz.prog W 0 (fun _ => true) true n 38 [c0, c1] = some y) : ∃ q r : Int, c0 = .int .i64 q ∧ c1 = .int .i64 r ∧ I64 q ∧ I64 r := by
  obtain ⟨y0, y1, n2, t0, t1⟩ := trodS2 Tryz.underlying38 h
  simp only [cells3, List.drop_zero, List.drop_succ_cons, List.take_succ_cons, List.take_zero] at t0 t1
  obtain ⟨q, rfl, wq⟩ := int_cell t0
  obtain ⟨r, rfl, wr⟩ := int_cell t1
  exact ⟨q, r, rfl, rfl, wq, wr⟩
theorem array2 {α : Type} {xs : Array α} (h : xs.size = 2) : ∃ c0 c1, xs = #[c0, c1] := by
  obtain ⟨l⟩ := xs
  match l, h with
  | [c0, c1], _ => exact ⟨c0, c1, rfl⟩
set_option maxRecDepth 100000 in
theorem open_ringI {r : Reach} {base : Nat} {v : Value} {d : DataW H} {p : List MemPlace} (hv : Value.okWide Tryz.prog W r base 38 v) (h : DataW.Trod enc Tryz.prog W 0 (fun _ => true) true 38 v d p) : ∃ q s : Int, v = .agg #[.int .i64 q, .int .i64 s] ∧ I64 q ∧ I64 s := by
  obtain ⟨cs, rfl, hsz⟩ := okWide_struct Tryz.underlying38 hv
  obtain ⟨c0, c1, rfl⟩ := array2 (hsz.trans cellsR)
  obtain ⟨fuel, hf⟩ := h
  obtain ⟨q, s, rfl, rfl, hq, hs⟩ := ring_cell (by simpa [Value.cells] using hf)
  exact ⟨q, s, rfl, hq, hs⟩
end Go.Proofs.YthiijonmnebjgaaGreat
namespace Go.Proofs.YthiijonmnebjgaaGreat
open Go.RowKit
theorem copy_m (m : Ms) (v : Value) (w : World) (hs : Sl w v m.body) (hb : m.body.length ≤ 140737488355328) : Calls Tryz.prog 16 #[mvl m v] w fun e w' => ∃ v', e = .returned (mvl m v') ∧ Own w' v' m.body ∧ Mod (fun _ => False) w w' ∧ (∀ g, v'.ownBlock = some g → w.heap.size ≤ g) := by
  obtain ⟨ao, cap, rfl⟩ := hs.shape
  obtain ⟨k, o, lf, i, pt, ps, g, s, st, rs, rr, sq, l⟩ := m
  refine (dCopy k o lf i pt ps g s st rs rr sq ao cap l w hs hb).mono ?_
  rintro e w' ⟨a', c', rfl, h⟩
  exact ⟨_, rfl, h⟩
theorem same_m (m : Ms) (v v' : Value) (w : World) (hs : Sl w v m.body) (hs' : Sl w v' m.body) : Calls Tryz.prog 14 #[mvl m v, mvl m v'] w fun e w' => e = .returned (.bool true) ∧ Mod (fun _ => False) w w' := by
  obtain ⟨ao, cap, rfl⟩ := hs.shape
  obtain ⟨ao', cap', rfl⟩ := hs'.shape
  obtain ⟨k, o, lf, i, pt, ps, g, s, st, rs, rr, sq, l⟩ := m
  exact Same_eq k o lf i pt ps g s st rs rr sq ao ao' cap cap' l w hs hs'
theorem same_d (d : Dt) (v v' : Value) (w : World) (hs : Sl w v d.m.body) (hs' : Sl w v' d.m.body) : Calls Tryz.prog 25 #[dv d v, dv d v'] w fun e w' => e = .returned (.bool true) ∧ Mod (fun _ => False) w w' := by
  obtain ⟨ao, cap, rfl⟩ := hs.shape
  obtain ⟨ao', cap', rfl⟩ := hs'.shape
  obtain ⟨dq, dr, dn, ds, dt, k, o, lf, i, pt, ps, g, s, st, rs, rr, sq, l⟩ := d
  exact SameData_eq dq dr dn ds dt k o lf i pt ps g s st rs rr sq ao ao' cap cap' l w hs hs'
theorem tkJ_rng {J : Int → Option Dt} {a h : Int} (hp : Wp J a h) (k : Int) : ∀ c ∈ ((J k).getD d0).m.body, 0 ≤ c ∧ c ≤ 255 := by
  cases e : J k with
  | none => intro c hc; simp [d0] at hc
  | some d => exact (hp.each k d e).2.2.2.1
set_option maxRecDepth 100000 in
set_option maxHeartbeats 20000000 in
theorem takes_walk (v0 v2 : Value) (oq oR : Int) (es : List (Dt × Value)) (ss : List (Ms × Value)) (w : World) (hD : Dts w v0 es) (hM : Mss w v2 ss) : Calls Tryz.prog 4 #[v0, .agg #[.int .i64 oq, .int .i64 oR], v2] w fun e w' => e = .returned (.bool true) ∧ Mod (fun _ => False) w w' := by
  have hA := (Mod.refl (fun _ => False) w).alloc (.cells #[.int .i64 oq, .int .i64 oR] 38)
  have hB := Bk.new w #[.int .i64 oq, .int .i64 oR] 38
  have HMS : Hid (Mss (w.alloc (.cells #[.int .i64 oq, .int .i64 oR] 38)) v2 ss) := hM.mod hA
  obtain ⟨av2, cv2, rfl, hlm, _⟩ := hM.form
  have hlI : (ss.length : Int) ≤ 9223372036854775807 := by simp only [maxLen] at hlm; omega
  have HWN := windows_any v0 es _ (hD.mod hA)
  obtain ⟨rb, erb⟩ : ∃ rb, rb = w.heap.size := ⟨_, rfl⟩
  rw [← erb] at hB
  have HB : Hid (Bk _ _ _ _) := hB
  have HA : Hid (Mod _ _ _) := hA
  have HRB : Hid (rb = w.heap.size) := erb
  obtain ⟨av0, cv0, rfl, _⟩ := hD.form
  clear hA hB hM hD hlm
  go_enter Tryz.func4, Tryz.ntmps4
  go_wp2_with (fail)
  refine HWN.mono ?_
  rw [← erb]
  clear erb
  generalize w.alloc (.cells #[.int .i64 oq, .int .i64 oR] 38) = w1 at *
  rintro e w2 ⟨p, q, rfl, hR⟩
  have HR : Hid (Rs w1 w2 p q 60) := hR
  clear hR HWN
  go_wp2_with (fail)
  go_loopw [9] (fun i wr => ∃ k : Nat, i = .int .i64 (k : Int) ∧ k ≤ 60 ∧ Hid (Rs w1 wr p q (60 + k))) (fun i _ => 60 - (intOf i).toNat)
  case atStart => exact ⟨0, rfl, Nat.zero_le _, HR.out⟩
  case round =>
    obtain ⟨k, rfl, hk, hrs⟩ := hrel
    have hk60 : (k : Int) ≤ 60 := by omega
    have hk0 : (0 : Int) ≤ (k : Int) := by omega
    by_cases hg : k < ss.length ∧ k < 60
    · have hg1 : (k : Int) < (ss.length : Int) := by omega
      have hg2 : (k : Int) < 60 := by omega
      have HG : Hid (k < ss.length ∧ k < 60) := hg
      obtain ⟨L, X, Y, a, hh, hP, hDs⟩ := hrs.out.ex
      obtain ⟨x, hx⟩ : ∃ x, ss[k]? = some x := ⟨ss[k], List.getElem?_eq_getElem hg.1⟩
      have hMr := HMS.out.mod hP.mod
      obtain ⟨hsl, hbl, hsq⟩ := hMr.each x (List.mem_of_getElem? hx)
      obtain ⟨av', cv', e, _, hc⟩ := hMr.form
      cases e
      obtain ⟨b, off, rfl, hrg⟩ := hc (by intro e; rw [e] at hx; simp at hx)
      have hra := hrg k x hx
      obtain ⟨m, vm⟩ := x
      simp only at hsl hbl hra hsq
      obtain ⟨am, cm, rfl⟩ := hsl.shape
      have HRG : Hid (∀ W, Mod (fun _ => False) w1 W → W.rangeAt b (off + k * 13) (mcl m (.slice am m.body.length cm)) ∧ Sl W (.slice am m.body.length cm) m.body) := fun W hW => by
        have h1 := HMS.out.mod hW
        obtain ⟨_, _, e, _, hc⟩ := h1.form
        cases e
        obtain ⟨_, _, e, hrg⟩ := hc (by intro e; rw [e] at hx; simp at hx)
        cases e
        exact ⟨hrg k _ hx, (h1.each _ (List.mem_of_getElem? hx)).1⟩
      have HSQ : Hid (I64 m.sq ∧ m.body.length ≤ 140737488355328 ∧ (∀ c ∈ m.body, 0 ≤ c ∧ c ≤ 255)) := ⟨hsq, hbl, hsl.rng⟩
      have HCP := copy_m m _ wr hsl hbl
      unfold mvl at HCP
      have HP : Hid (Pq w1 wr p q (jl L) L X Y a hh hh (60 + k) (60 + k)) := hP
      have HDs : Hid (Dis L) := hDs
      clear hP hDs hMr hc hrg hx hg hsl hbl hsq
      go_wp2_with (first | (refine wpList_load_at infoM Tryz.underlying43 rfl rfl _ rfl b (off + k * 13) rfl _ hra rfl ?_; unfold mcl; simp only [Act.put, List.setIfInBounds_toArray, List.set_cons_succ, List.set_cons_zero]))
      refine HCP.mono ?_
      rintro e w3 ⟨vi, rfl, hoi, hm3, hgi⟩
      obtain ⟨ai, ci, rfl⟩ := hoi.shape
      have HOI : Hid (Own w3 (.slice ai m.body.length ci) m.body) := hoi
      have HP3 : Hid (Pq w1 w3 p q (jl L) L X Y a hh hh (60 + k) (60 + k)) := HP.out.keep hm3
      have HGI : Hid (∀ g, (Value.slice ai m.body.length ci).ownBlock = some g → wr.heap.size ≤ g) := hgi
      have HM3 : Hid (Mod (fun _ => False) wr w3) := hm3
      clear HCP hoi hm3 hgi hra
      go_upto_region 6 with (refine wpList_store_row infoM rfl rfl _ _ rfl w3.heap.size #[.int .i64 m.kind, .int .i64 m.origin, .int .i64 m.life, .int .i64 m.id, .int .i64 m.part, .int .i64 m.parts, .int .i64 m.groups, .bool m.safe, .int .i64 m.st, .int .i64 m.rs, .int .i64 m.rr, .int .i64 m.sq, .slice ai m.body.length ci] rfl rfl (Bk.new w3 _ _) rfl rfl rfl ?_; intro w4 hB4 hm4)
      obtain ⟨ib, eib⟩ : ∃ ib, ib = w3.heap.size := ⟨_, rfl⟩
      rw [← eib] at hB4 ⊢
      have hM34 : Mod (fun _ => False) w3 w4 := ((Mod.refl (fun _ => False) w3).alloc _).trans hm4 (V := fun _ => False) (fun _ _ h => h) (fun i hi e => by omega)
      have HP4 : Hid (Pq w1 w4 p q (jl L) L X Y a hh hh (60 + k) (60 + k)) := HP3.out.keep hM34
      have hO4 := HOI.out.mod hM34 (fun _ _ h => h)
      have HIX : Hid (¬ X ib ∧ ¬ Y ib ∧ (∀ g, (Value.slice ai m.body.length ci).ownBlock = some g → ¬ X g ∧ ¬ Y g)) := by
        have h1 := HP.out.xlt
        have h2 := HP.out.ylt
        have hs := HM3.out.size
        refine ⟨fun h => by have := h1 _ h; omega, fun h => by have := h2 _ h; omega, fun g hg => ⟨fun h => by have := h1 _ h; have := HGI.out g hg; omega, fun h => by have := h2 _ h; have := HGI.out g hg; omega⟩⟩
      have hr4 := HB.out.mod HP4.out.mod (fun h => h)
      have r0 : w4.cell? ⟨rb, 0, none⟩ = some (.int .i64 oq) := hr4.cellv (j := 0) rfl
      have r1 : w4.cell? ⟨rb, 1, none⟩ = some (.int .i64 oR) := hr4.cellv (j := 1) rfl
      have HT := pq_take HP4.out (by have := HG.out.2; omega) oq oR m (.slice ai m.body.length ci) (hO4.sl HSQ.out.2.2)
      unfold mvl at HT
      have HB4 : Hid (Bk w4 ib 43 #[.int .i64 m.kind, .int .i64 m.origin, .int .i64 m.life, .int .i64 m.id, .int .i64 m.part, .int .i64 m.parts, .int .i64 m.groups, .bool m.safe, .int .i64 m.st, .int .i64 m.rs, .int .i64 m.rr, .int .i64 m.sq, .slice ai m.body.length ci]) := hB4
      have HO4 : Hid (Own w4 (.slice ai m.body.length ci) m.body) := hO4
      have HIB : Hid (w3.heap.size ≤ ib) := by show _ ≤ _; omega
      clear hm4 hM34 hO4 hr4 eib HP HP3 HOI HM3 HGI
      go_wp2_with (refine wpList_load_row infoM Tryz.underlying43 rfl rfl _ rfl ib rfl hB4 rfl ?_; simp only [Act.put, List.setIfInBounds_toArray, List.set_cons_succ, List.set_cons_zero])
      refine HT.mono ?_
      rintro e w5 ⟨X5, a5, rfl, hP5, hm5⟩
      have HP5 : Hid (Pq w1 w5 p q (tkJ (jl L) m oq oR) L X5 Y a5 (tkH (jl L) hh m oq oR) hh (60 + k + 1) (60 + k)) := hP5
      have HB5 : Hid (Bk w5 ib 43 #[.int .i64 m.kind, .int .i64 m.origin, .int .i64 m.life, .int .i64 m.id, .int .i64 m.part, .int .i64 m.parts, .int .i64 m.groups, .bool m.safe, .int .i64 m.st, .int .i64 m.rs, .int .i64 m.rr, .int .i64 m.sq, .slice ai m.body.length ci]) := HB4.out.mod hm5 HIX.out.1
      have HO5 : Hid (Own w5 (.slice ai m.body.length ci) m.body) := HO4.out.mod hm5 (fun g hg => (HIX.out.2.2 g hg).1)
      have hr5 := HB.out.mod hP5.mod (fun h => h)
      have hrg5 := (HRG.out w5 hP5.mod).1
      have HF7 : ∀ W, Mod (fun _ => False) w5 W → (W.cell? ⟨rb, 0, none⟩ = some (.int .i64 oq) ∧ W.cell? ⟨rb, 1, none⟩ = some (.int .i64 oR) ∧ W.cell? ⟨b, off + k * 13, none⟩ = some (.int .i64 m.kind) ∧ W.cell? ⟨b, off + k * 13 + 1, none⟩ = some (.int .i64 m.origin) ∧ W.cell? ⟨b, off + k * 13 + 2, none⟩ = some (.int .i64 m.life) ∧ W.cell? ⟨b, off + k * 13 + 3, none⟩ = some (.int .i64 m.id) ∧ W.cell? ⟨b, off + k * 13 + 4, none⟩ = some (.int .i64 m.part) ∧ W.cell? ⟨b, off + k * 13 + 5, none⟩ = some (.int .i64 m.parts) ∧ W.cell? ⟨b, off + k * 13 + 6, none⟩ = some (.int .i64 m.groups) ∧ W.cell? ⟨b, off + k * 13 + 7, none⟩ = some (.bool m.safe) ∧ W.cell? ⟨b, off + k * 13 + 8, none⟩ = some (.int .i64 m.st) ∧ W.cell? ⟨b, off + k * 13 + 9, none⟩ = some (.int .i64 m.rs) ∧ W.cell? ⟨b, off + k * 13 + 10, none⟩ = some (.int .i64 m.rr) ∧ W.cell? ⟨b, off + k * 13 + 11, none⟩ = some (.int .i64 m.sq) ∧ W.cell? ⟨b, off + k * 13 + 12, none⟩ = some (.slice am m.body.length cm)) := fun W hW => ⟨(hr5.mod hW (fun h => h)).cellv (j := 0) rfl, (hr5.mod hW (fun h => h)).cellv (j := 1) rfl, hW.cell (hrg5 0 _ rfl) (fun h => h), hW.cell (hrg5 1 _ rfl) (fun h => h), hW.cell (hrg5 2 _ rfl) (fun h => h), hW.cell (hrg5 3 _ rfl) (fun h => h), hW.cell (hrg5 4 _ rfl) (fun h => h), hW.cell (hrg5 5 _ rfl) (fun h => h), hW.cell (hrg5 6 _ rfl) (fun h => h), hW.cell (hrg5 7 _ rfl) (fun h => h), hW.cell (hrg5 8 _ rfl) (fun h => h), hW.cell (hrg5 9 _ rfl) (fun h => h), hW.cell (hrg5 10 _ rfl) (fun h => h), hW.cell (hrg5 11 _ rfl) (fun h => h), hW.cell (hrg5 12 _ rfl) (fun h => h)⟩
      have HT7 : ∀ W, Mod (fun _ => False) w5 W → Calls Tryz.prog 18 #[.pointer (some ⟨q, 0, none⟩), .agg #[.int .i64 oq, .int .i64 oR], .agg #[.int .i64 m.kind, .int .i64 m.origin, .int .i64 m.life, .int .i64 m.id, .int .i64 m.part, .int .i64 m.parts, .int .i64 m.groups, .bool m.safe, .int .i64 m.st, .int .i64 m.rs, .int .i64 m.rr, .int .i64 m.sq, .slice am m.body.length cm]] W fun e w' => ∃ Y', e = .returned (.tuple #[.bool (tkB (jl L) m oq oR), .int .i64 (tkE m oq oR)]) ∧ Pq w1 w' p q (jl (tkL L m oq oR)) (tkL L m oq oR) X5 Y' a5 (tkH (jl L) hh m oq oR) (tkH (jl L) hh m oq oR) (60 + k + 1) (60 + k + 1) ∧ Mod Y W w' := fun W hW => by
        rw [tkL_jl]
        exact pq_dtake (HP5.out.keep hW) (by have := HG.out.2; omega) oq oR m _ ((HRG.out W ((HP5.out.keep hW).mod)).2)
      obtain ⟨r0, r1, m0, m1, m2, m3, m4, m5, m6, m7, m8, m9, m10, m11, m12⟩ := HF7 w5 (Mod.refl _ _)
      clear HT hP5 hm5 hB4 hr5 hrg5
      go_upto_region 7 with (fail)
      go_region_held3 (fun U => U.cell? ⟨rb, 0, none⟩ = some (.int .i64 oq) ∧ U.cell? ⟨rb, 1, none⟩ = some (.int .i64 oR) ∧ U.cell? ⟨b, off + k * 13, none⟩ = some (.int .i64 m.kind) ∧ U.cell? ⟨b, off + k * 13 + 1, none⟩ = some (.int .i64 m.origin) ∧ U.cell? ⟨b, off + k * 13 + 2, none⟩ = some (.int .i64 m.life) ∧ U.cell? ⟨b, off + k * 13 + 3, none⟩ = some (.int .i64 m.id) ∧ U.cell? ⟨b, off + k * 13 + 4, none⟩ = some (.int .i64 m.part) ∧ U.cell? ⟨b, off + k * 13 + 5, none⟩ = some (.int .i64 m.parts) ∧ U.cell? ⟨b, off + k * 13 + 6, none⟩ = some (.int .i64 m.groups) ∧ U.cell? ⟨b, off + k * 13 + 7, none⟩ = some (.bool m.safe) ∧ U.cell? ⟨b, off + k * 13 + 8, none⟩ = some (.int .i64 m.st) ∧ U.cell? ⟨b, off + k * 13 + 9, none⟩ = some (.int .i64 m.rs) ∧ U.cell? ⟨b, off + k * 13 + 10, none⟩ = some (.int .i64 m.rr) ∧ U.cell? ⟨b, off + k * 13 + 11, none⟩ = some (.int .i64 m.sq) ∧ U.cell? ⟨b, off + k * 13 + 12, none⟩ = some (.slice am m.body.length cm)) (first | exact ⟨r0, r1, m0, m1, m2, m3, m4, m5, m6, m7, m8, m9, m10, m11, m12⟩ | go_keep) (first
        | (go_at_call 18; refine (HT7 _ ((Mod.refl (fun _ => False) w5).drew)).mono ?_; rintro e w6 ⟨Y6, rfl, hP6, hm6⟩; have hr6 := HB.out.mod hP6.mod (fun h => h); have hrg6 := (HRG.out w6 hP6.mod).1; have r0 := hr6.cellv (j := 0) rfl; have r1 := hr6.cellv (j := 1) rfl; have m0 := hrg6 0 _ rfl; have m1 := hrg6 1 _ rfl; have m2 := hrg6 2 _ rfl; have m3 := hrg6 3 _ rfl; have m4 := hrg6 4 _ rfl; have m5 := hrg6 5 _ rfl; have m6 := hrg6 6 _ rfl; have m7 := hrg6 7 _ rfl; have m8 := hrg6 8 _ rfl; have m9 := hrg6 9 _ rfl; have m10 := hrg6 10 _ rfl; have m11 := hrg6 11 _ rfl; have m12 := hrg6 12 _ rfl))
      have hd5 := (Mod.refl (fun _ => False) w5).drew
      have HB6 : Hid (Bk w6 ib 43 #[.int .i64 m.kind, .int .i64 m.origin, .int .i64 m.life, .int .i64 m.id, .int .i64 m.part, .int .i64 m.parts, .int .i64 m.groups, .bool m.safe, .int .i64 m.st, .int .i64 m.rs, .int .i64 m.rr, .int .i64 m.sq, .slice ai m.body.length ci]) := (HB5.out.mod hd5 (fun h => h)).mod hm6 HIX.out.2.1
      have HO6 : Hid (Own w6 (.slice ai m.body.length ci) m.body) := (HO5.out.mod hd5 (fun _ _ h => h)).mod hm6 (fun g hg => (HIX.out.2.2 g hg).2)
      obtain ⟨L', eL'⟩ : ∃ L', tkL L m oq oR = L' := ⟨_, rfl⟩
      obtain ⟨h', eh'⟩ : ∃ h', tkH (jl L) hh m oq oR = h' := ⟨_, rfl⟩
      have HDs' : Hid (Dis L') := by show Dis L'; rw [← eL']; exact HDs.out.tk m oq oR
      rw [eL', eh'] at hP6
      have HP6 : Hid (Pq w1 w6 p q (jl L') L' X5 Y6 a5 h' h' (60 + k + 1) (60 + k + 1)) := hP6
      clear hd5 hP6 hm6 eL' eh' HT7 HF7 r0 r1 m0 m1 m2 m3 m4 m5 m6 m7 m8 m9 m10 m11 m12 hr6 HB5 HO5 HP5
      obtain ⟨bb, ebb⟩ : ∃ bb, tkB (jl L) m oq oR = bb := ⟨_, rfl⟩
      obtain ⟨er, eer⟩ : ∃ er, tkE m oq oR = er := ⟨_, rfl⟩
      rw [ebb, eer]
      clear ebb eer
      have hF8 : ∀ W, Mod (fun _ => False) w6 W → (W.cell? ⟨ib, 0, none⟩ = some (.int .i64 m.kind) ∧ W.cell? ⟨ib, 1, none⟩ = some (.int .i64 m.origin) ∧ W.cell? ⟨ib, 2, none⟩ = some (.int .i64 m.life) ∧ W.cell? ⟨ib, 3, none⟩ = some (.int .i64 m.id) ∧ W.cell? ⟨ib, 4, none⟩ = some (.int .i64 m.part) ∧ W.cell? ⟨ib, 5, none⟩ = some (.int .i64 m.parts) ∧ W.cell? ⟨ib, 6, none⟩ = some (.int .i64 m.groups) ∧ W.cell? ⟨ib, 7, none⟩ = some (.bool m.safe) ∧ W.cell? ⟨ib, 8, none⟩ = some (.int .i64 m.st) ∧ W.cell? ⟨ib, 9, none⟩ = some (.int .i64 m.rs) ∧ W.cell? ⟨ib, 10, none⟩ = some (.int .i64 m.rr) ∧ W.cell? ⟨ib, 11, none⟩ = some (.int .i64 m.sq) ∧ W.cell? ⟨ib, 12, none⟩ = some (.slice ai m.body.length ci) ∧ W.cell? ⟨b, off + k * 13, none⟩ = some (.int .i64 m.kind) ∧ W.cell? ⟨b, off + k * 13 + 1, none⟩ = some (.int .i64 m.origin) ∧ W.cell? ⟨b, off + k * 13 + 2, none⟩ = some (.int .i64 m.life) ∧ W.cell? ⟨b, off + k * 13 + 3, none⟩ = some (.int .i64 m.id) ∧ W.cell? ⟨b, off + k * 13 + 4, none⟩ = some (.int .i64 m.part) ∧ W.cell? ⟨b, off + k * 13 + 5, none⟩ = some (.int .i64 m.parts) ∧ W.cell? ⟨b, off + k * 13 + 6, none⟩ = some (.int .i64 m.groups) ∧ W.cell? ⟨b, off + k * 13 + 7, none⟩ = some (.bool m.safe) ∧ W.cell? ⟨b, off + k * 13 + 8, none⟩ = some (.int .i64 m.st) ∧ W.cell? ⟨b, off + k * 13 + 9, none⟩ = some (.int .i64 m.rs) ∧ W.cell? ⟨b, off + k * 13 + 10, none⟩ = some (.int .i64 m.rr) ∧ W.cell? ⟨b, off + k * 13 + 11, none⟩ = some (.int .i64 m.sq) ∧ W.cell? ⟨b, off + k * 13 + 12, none⟩ = some (.slice am m.body.length cm)) := fun W hW => ⟨(HB6.out.mod hW (fun h => h)).cellv (j := 0) rfl, (HB6.out.mod hW (fun h => h)).cellv (j := 1) rfl, (HB6.out.mod hW (fun h => h)).cellv (j := 2) rfl, (HB6.out.mod hW (fun h => h)).cellv (j := 3) rfl, (HB6.out.mod hW (fun h => h)).cellv (j := 4) rfl, (HB6.out.mod hW (fun h => h)).cellv (j := 5) rfl, (HB6.out.mod hW (fun h => h)).cellv (j := 6) rfl, (HB6.out.mod hW (fun h => h)).cellv (j := 7) rfl, (HB6.out.mod hW (fun h => h)).cellv (j := 8) rfl, (HB6.out.mod hW (fun h => h)).cellv (j := 9) rfl, (HB6.out.mod hW (fun h => h)).cellv (j := 10) rfl, (HB6.out.mod hW (fun h => h)).cellv (j := 11) rfl, (HB6.out.mod hW (fun h => h)).cellv (j := 12) rfl, hW.cell (hrg6 0 _ rfl) (fun h => h), hW.cell (hrg6 1 _ rfl) (fun h => h), hW.cell (hrg6 2 _ rfl) (fun h => h), hW.cell (hrg6 3 _ rfl) (fun h => h), hW.cell (hrg6 4 _ rfl) (fun h => h), hW.cell (hrg6 5 _ rfl) (fun h => h), hW.cell (hrg6 6 _ rfl) (fun h => h), hW.cell (hrg6 7 _ rfl) (fun h => h), hW.cell (hrg6 8 _ rfl) (fun h => h), hW.cell (hrg6 9 _ rfl) (fun h => h), hW.cell (hrg6 10 _ rfl) (fun h => h), hW.cell (hrg6 11 _ rfl) (fun h => h), hW.cell (hrg6 12 _ rfl) (fun h => h)⟩
      have HAr : ∀ W, Mod (fun _ => False) w6 W → Calls Tryz.prog 19 #[.pointer (some ⟨p, 0, none⟩)] W fun e w' => e = .returned (.int .i64 a5) ∧ w' = W := fun W hW => Aru_w (HP6.out.keep hW).wn
      have HdAr : ∀ W, Mod (fun _ => False) w6 W → Calls Tryz.prog 20 #[.pointer (some ⟨q, 0, none⟩)] W fun e w' => e = .returned (.int .i64 a5) ∧ Mod (fun _ => False) W w' := fun W hW => dAru (HP6.out.keep hW).dw (by have := HP6.out.len; have := HG.out.2; omega) (HP6.out.keep hW).wn.wp
      have HHi : ∀ W, Mod (fun _ => False) w6 W → Calls Tryz.prog 21 #[.pointer (some ⟨p, 0, none⟩)] W fun e w' => e = .returned (.int .i64 h') ∧ w' = W := fun W hW => High_w (HP6.out.keep hW).wn
      have HdHi : ∀ W, Mod (fun _ => False) w6 W → Calls Tryz.prog 22 #[.pointer (some ⟨q, 0, none⟩)] W fun e w' => e = .returned (.int .i64 h') ∧ w' = W := fun W hW => dHigh (HP6.out.keep hW).dw
      have HSm : ∀ W, Mod (fun _ => False) w6 W → Calls Tryz.prog 14 #[.agg #[.int .i64 m.kind, .int .i64 m.origin, .int .i64 m.life, .int .i64 m.id, .int .i64 m.part, .int .i64 m.parts, .int .i64 m.groups, .bool m.safe, .int .i64 m.st, .int .i64 m.rs, .int .i64 m.rr, .int .i64 m.sq, .slice ai m.body.length ci], .agg #[.int .i64 m.kind, .int .i64 m.origin, .int .i64 m.life, .int .i64 m.id, .int .i64 m.part, .int .i64 m.parts, .int .i64 m.groups, .bool m.safe, .int .i64 m.st, .int .i64 m.rs, .int .i64 m.rr, .int .i64 m.sq, .slice am m.body.length cm]] W fun e w' => e = .returned (.bool true) ∧ Mod (fun _ => False) W w' := fun W hW => same_m m _ _ W ((HO6.out.mod hW (fun _ _ h => h)).sl HSQ.out.2.2) ((HRG.out W ((HP6.out.keep hW).mod)).2)
      obtain ⟨i0, i1, i2, i3, i4, i5, i6, i7, i8, i9, i10, i11, i12, m0, m1, m2, m3, m4, m5, m6, m7, m8, m9, m10, m11, m12⟩ := hF8 w6 (Mod.refl _ _)
      clear hrg6
      go_upto_region 8 with (fail)
      go_region_held3 (fun U => U.cell? ⟨ib, 0, none⟩ = some (.int .i64 m.kind) ∧ U.cell? ⟨ib, 1, none⟩ = some (.int .i64 m.origin) ∧ U.cell? ⟨ib, 2, none⟩ = some (.int .i64 m.life) ∧ U.cell? ⟨ib, 3, none⟩ = some (.int .i64 m.id) ∧ U.cell? ⟨ib, 4, none⟩ = some (.int .i64 m.part) ∧ U.cell? ⟨ib, 5, none⟩ = some (.int .i64 m.parts) ∧ U.cell? ⟨ib, 6, none⟩ = some (.int .i64 m.groups) ∧ U.cell? ⟨ib, 7, none⟩ = some (.bool m.safe) ∧ U.cell? ⟨ib, 8, none⟩ = some (.int .i64 m.st) ∧ U.cell? ⟨ib, 9, none⟩ = some (.int .i64 m.rs) ∧ U.cell? ⟨ib, 10, none⟩ = some (.int .i64 m.rr) ∧ U.cell? ⟨ib, 11, none⟩ = some (.int .i64 m.sq) ∧ U.cell? ⟨ib, 12, none⟩ = some (.slice ai m.body.length ci) ∧ U.cell? ⟨b, off + k * 13, none⟩ = some (.int .i64 m.kind) ∧ U.cell? ⟨b, off + k * 13 + 1, none⟩ = some (.int .i64 m.origin) ∧ U.cell? ⟨b, off + k * 13 + 2, none⟩ = some (.int .i64 m.life) ∧ U.cell? ⟨b, off + k * 13 + 3, none⟩ = some (.int .i64 m.id) ∧ U.cell? ⟨b, off + k * 13 + 4, none⟩ = some (.int .i64 m.part) ∧ U.cell? ⟨b, off + k * 13 + 5, none⟩ = some (.int .i64 m.parts) ∧ U.cell? ⟨b, off + k * 13 + 6, none⟩ = some (.int .i64 m.groups) ∧ U.cell? ⟨b, off + k * 13 + 7, none⟩ = some (.bool m.safe) ∧ U.cell? ⟨b, off + k * 13 + 8, none⟩ = some (.int .i64 m.st) ∧ U.cell? ⟨b, off + k * 13 + 9, none⟩ = some (.int .i64 m.rs) ∧ U.cell? ⟨b, off + k * 13 + 10, none⟩ = some (.int .i64 m.rr) ∧ U.cell? ⟨b, off + k * 13 + 11, none⟩ = some (.int .i64 m.sq) ∧ U.cell? ⟨b, off + k * 13 + 12, none⟩ = some (.slice am m.body.length cm)) (first | exact ⟨i0, i1, i2, i3, i4, i5, i6, i7, i8, i9, i10, i11, i12, m0, m1, m2, m3, m4, m5, m6, m7, m8, m9, m10, m11, m12⟩ | go_keep) (first
        | (go_at_call 19; refine (HAr _ ((Mod.refl (fun _ => False) w6).drew)).mono ?_; rintro e w' ⟨rfl, rfl⟩)
        | (go_at_call 20; refine (HdAr _ ((Mod.refl (fun _ => False) w6).drew)).mono ?_; rintro e w7 ⟨rfl, hm7⟩; obtain ⟨i0, i1, i2, i3, i4, i5, i6, i7, i8, i9, i10, i11, i12, m0, m1, m2, m3, m4, m5, m6, m7, m8, m9, m10, m11, m12⟩ := hF8 w7 (((Mod.refl (fun _ => False) w6).drew).and hm7))
        | (go_at_call 21; refine (HHi _ (((Mod.refl (fun _ => False) w6).drew).and hm7)).mono ?_; rintro e w' ⟨rfl, rfl⟩)
        | (go_at_call 22; refine (HdHi _ (((Mod.refl (fun _ => False) w6).drew).and hm7)).mono ?_; rintro e w' ⟨rfl, rfl⟩)
        | (go_at_call 14; refine (HSm _ (((Mod.refl (fun _ => False) w6).drew).and hm7)).mono ?_; rintro e w8 ⟨rfl, hm8⟩; obtain ⟨i0, i1, i2, i3, i4, i5, i6, i7, i8, i9, i10, i11, i12, m0, m1, m2, m3, m4, m5, m6, m7, m8, m9, m10, m11, m12⟩ := hF8 w8 ((((Mod.refl (fun _ => False) w6).drew).and hm7).and hm8)))
      have hd8 := (((Mod.refl (fun _ => False) w6).drew).and hm7).and hm8
      have HP8 : Hid (Pq w1 w8 p q (jl L') L' X5 Y6 a5 h' h' (60 + k + 1) (60 + k + 1)) := HP6.out.keep hd8
      have k11 : w8.cell? ⟨b, off + k * 13 + 11, none⟩ = some (.int .i64 m.sq) := m11
      have HGE := Get_w HP8.out.wn m.sq HSQ.out.1
      obtain ⟨d, ed⟩ : ∃ d, (jl L' m.sq).getD d0 = d := ⟨_, rfl⟩
      obtain ⟨bs, ebs⟩ : ∃ bs, (jl L' m.sq).isSome = bs := ⟨_, rfl⟩
      have HDR : Hid (∀ c ∈ d.m.body, 0 ≤ c ∧ c ≤ 255) := by show ∀ c ∈ d.m.body, _; rw [← ed]; exact tkJ_rng HP8.out.wn.wp m.sq
      have HED : Hid ((jl L' m.sq).getD d0 = d ∧ (jl L' m.sq).isSome = bs) := ⟨ed, ebs⟩
      rw [ed, ebs] at HGE
      unfold dv at HGE
      clear ed ebs hd8 hm7 hm8 i0 i1 i2 i3 i4 i5 i6 i7 i8 i9 i10 i11 i12 m0 m1 m2 m3 m4 m5 m6 m7 m8 m9 m10 m11 m12 HAr HdAr HHi HdHi HSm hF8 HP6
      go_wp2_with (fail)
      refine HGE.mono ?_
      rintro e w9 ⟨v9, rfl, ho9, hm9, hg9⟩
      obtain ⟨a9, c9, rfl⟩ := ho9.shape
      have HO9 : Hid (Own w9 (.slice a9 d.m.body.length c9) d.m.body) := ho9
      have HP9 : Hid (Pq w1 w9 p q (jl L') L' X5 Y6 a5 h' h' (60 + k + 1) (60 + k + 1)) := HP8.out.keep hm9
      clear HGE ho9 hm9 hg9 k11 HP8
      go_upto_region 11 with (refine wpList_store_row info18 rfl rfl _ _ rfl w9.heap.size #[.int .i64 d.q, .int .i64 d.r, .int .i64 d.n, .int .i64 d.s, .int .i64 d.t, .int .i64 d.m.kind, .int .i64 d.m.origin, .int .i64 d.m.life, .int .i64 d.m.id, .int .i64 d.m.part, .int .i64 d.m.parts, .int .i64 d.m.groups, .bool d.m.safe, .int .i64 d.m.st, .int .i64 d.m.rs, .int .i64 d.m.rr, .int .i64 d.m.sq, .slice a9 d.m.body.length c9] rfl rfl (Bk.new w9 _ _) rfl rfl rfl ?_; intro wa hBa hma)
      obtain ⟨xb, exb⟩ : ∃ xb, xb = w9.heap.size := ⟨_, rfl⟩
      rw [← exb] at hBa ⊢
      have hM9a : Mod (fun _ => False) w9 wa := ((Mod.refl (fun _ => False) w9).alloc _).trans hma (V := fun _ => False) (fun _ _ h => h) (fun i hi e => by omega)
      have HPa : Hid (Pq w1 wa p q (jl L') L' X5 Y6 a5 h' h' (60 + k + 1) (60 + k + 1)) := HP9.out.keep hM9a
      have HOa : Hid (Own wa (.slice a9 d.m.body.length c9) d.m.body) := HO9.out.mod hM9a (fun _ _ h => h)
      have HBa : Hid (Bk wa xb 45 #[.int .i64 d.q, .int .i64 d.r, .int .i64 d.n, .int .i64 d.s, .int .i64 d.t, .int .i64 d.m.kind, .int .i64 d.m.origin, .int .i64 d.m.life, .int .i64 d.m.id, .int .i64 d.m.part, .int .i64 d.m.parts, .int .i64 d.m.groups, .bool d.m.safe, .int .i64 d.m.st, .int .i64 d.m.rs, .int .i64 d.m.rr, .int .i64 d.m.sq, .slice a9 d.m.body.length c9]) := hBa
      have k11 : wa.cell? ⟨b, off + k * 13 + 11, none⟩ = some (.int .i64 m.sq) := (HRG.out wa HPa.out.mod).1 11 _ rfl
      have HDG := dGet HPa.out.dw (by have := HPa.out.len; have := HG.out.2; omega) m.sq
      rw [HED.out.1, HED.out.2] at HDG
      unfold dv at HDG
      clear hBa hma hM9a exb HP9 HO9
      go_wp2_with (fail)
      refine HDG.mono ?_
      rintro e wb ⟨vb, rfl, hob, hmb, hgb⟩
      obtain ⟨ab, cb, rfl⟩ := hob.shape
      have HOb : Hid (Own wb (.slice ab d.m.body.length cb) d.m.body) := hob
      have HPb : Hid (Pq w1 wb p q (jl L') L' X5 Y6 a5 h' h' (60 + k + 1) (60 + k + 1)) := HPa.out.keep hmb
      have HBb : Hid (Bk wb xb 45 #[.int .i64 d.q, .int .i64 d.r, .int .i64 d.n, .int .i64 d.s, .int .i64 d.t, .int .i64 d.m.kind, .int .i64 d.m.origin, .int .i64 d.m.life, .int .i64 d.m.id, .int .i64 d.m.part, .int .i64 d.m.parts, .int .i64 d.m.groups, .bool d.m.safe, .int .i64 d.m.st, .int .i64 d.m.rs, .int .i64 d.m.rr, .int .i64 d.m.sq, .slice a9 d.m.body.length c9]) := HBa.out.mod hmb (fun h => h)
      have HOab : Hid (Own wb (.slice a9 d.m.body.length c9) d.m.body) := HOa.out.mod hmb (fun _ _ h => h)
      clear HDG hob hmb hgb k11 HPa HOa HBa
      go_upto_region 12 with (refine wpList_store_row info18 rfl rfl _ _ rfl wb.heap.size #[.int .i64 d.q, .int .i64 d.r, .int .i64 d.n, .int .i64 d.s, .int .i64 d.t, .int .i64 d.m.kind, .int .i64 d.m.origin, .int .i64 d.m.life, .int .i64 d.m.id, .int .i64 d.m.part, .int .i64 d.m.parts, .int .i64 d.m.groups, .bool d.m.safe, .int .i64 d.m.st, .int .i64 d.m.rs, .int .i64 d.m.rr, .int .i64 d.m.sq, .slice ab d.m.body.length cb] rfl rfl (Bk.new wb _ _) rfl rfl rfl ?_; intro wc hBc hmc)
      obtain ⟨yb, eyb⟩ : ∃ yb, yb = wb.heap.size := ⟨_, rfl⟩
      rw [← eyb] at hBc ⊢
      have hMbc : Mod (fun _ => False) wb wc := ((Mod.refl (fun _ => False) wb).alloc _).trans hmc (V := fun _ => False) (fun _ _ h => h) (fun i hi e => by omega)
      have HPc : Hid (Pq w1 wc p q (jl L') L' X5 Y6 a5 h' h' (60 + k + 1) (60 + k + 1)) := HPb.out.keep hMbc
      have hBx := HBb.out.mod hMbc (fun h => h)
      have HSD := same_d d (.slice a9 d.m.body.length c9) (.slice ab d.m.body.length cb) wc ((HOab.out.mod hMbc (fun _ _ h => h)).sl HDR.out) ((HOb.out.mod hMbc (fun _ _ h => h)).sl HDR.out)
      unfold dv at HSD
      clear hmc hMbc eyb HPb HBb HOb HOab
      go_wp2_with (first
        | (refine wpList_load_row info18 Tryz.underlying45 rfl rfl _ rfl xb rfl hBx rfl ?_; simp only [Act.put, List.setIfInBounds_toArray, List.set_cons_succ, List.set_cons_zero])
        | (refine wpList_load_row info18 Tryz.underlying45 rfl rfl _ rfl yb rfl hBc rfl ?_; simp only [Act.put, List.setIfInBounds_toArray, List.set_cons_succ, List.set_cons_zero]))
      refine HSD.mono ?_
      rintro e wd ⟨rfl, hmd⟩
      have HRD : Hid (Rs w1 wd p q (60 + (k + 1))) := ⟨_, _, _, _, _, HPc.out.keep hmd, HDs'.out⟩
      clear HSD hmd hBc hBx
      go_wp2
      go_roundw
      case rel => exact ⟨k + 1, by go_num, HG.out.2, HRD.out⟩
      case measure =>
        have := HG.out
        simp [intOf]
        omega
    · have HRE : Hid (Mod (fun _ => False) w1 wr) := by
        obtain ⟨_, _, _, _, _, hP, _⟩ := hrs.out.ex
        exact hP.mod
      by_cases h1 : k < ss.length
      · have hg1 : (k : Int) < (ss.length : Int) := by omega
        have hg2 : ¬ (k : Int) < 60 := by omega
        clear hg h1
        go_wp2_with (fail)
        refine (awake_any _).mono ?_
        rintro e w9 ⟨rfl, hm9⟩
        have HM9 : Hid (Mod (fun _ => False) w w9) := (HA.out.and HRE.out).and hm9
        go_wp2
        go_ret
        exact ⟨rfl, HM9.out⟩
      · have hg1 : ¬ (k : Int) < (ss.length : Int) := by omega
        clear hg h1
        go_wp2_with (fail)
        refine (awake_any _).mono ?_
        rintro e w9 ⟨rfl, hm9⟩
        have HM9 : Hid (Mod (fun _ => False) w w9) := (HA.out.and HRE.out).and hm9
        go_wp2
        go_ret
        exact ⟨rfl, HM9.out⟩
namespace regainTakes
open Go.ChangeShapes Go.WideShapes Go.ChangeAt Go.RowKit
set_option maxRecDepth 100000 in
theorem lifted (os : Os) (started : os.Started) (H : Type) (enc : TypeId × Value → H) :
    ReturnsInHanded {} Tryz.checked os 4 .any (Rows.regainTakesSpec.pre6 enc Tryz.prog Tryz.f4 Rows.regainTakesRow.domain false) (Rows.regainTakesSpec.post enc Tryz.prog Tryz.f4 false true false false) := by
  refine returnsInHanded_of_change_sized (C := Tryz.checked) own started (by kernel_rfl) Tryz.func4
    (ChangeSpec.witness6 (enc := enc) (C := Tryz.checked) false ⟨#[], #[.slice none 0 0, .agg #[.int .i64 0, .int .i64 0], .slice none 0 0], []⟩ 8 (by kernel_rfl) (by kernel_rfl) (by kernel_rfl) (by kernel_rfl)) ?_
  intro W base args ds gs before hval0 hW hcnd hsz0 _
  have hval : ∀ (j : Nat) t v, Tryz.f4.params[j]? = some t → args[j]? = some v → Value.okWide Tryz.prog W .any base t v := hval0
  have hsz : (DataW.weightsEach Tryz.prog (Tryz.f4.params.toList ++ Rows.regainTakesSpec.plain.varTypes Tryz.prog) (ds ++ gs)).all (· ≤ reachBytes) = true := hsz0
  have hW' := hW
  obtain ⟨p, q, hA0, hV, rfl, hfz, hnd⟩ := hW
  have hA : DataW.TrodAll enc Tryz.prog W 0 (fun _ => true) true Tryz.f4.params.toList args.toList ds p := hA0
  rw [Tryz.params4] at hA hval hsz
  obtain ⟨v0, vs0, d0, ds0, p0, q0, hargs, rfl, rfl, h0, r0⟩ := trodAll_cons hA
  obtain ⟨v1, vs1, d1, ds1, p1, q1, rfl, rfl, rfl, h1, r1⟩ := trodAll_cons r0
  obtain ⟨v2, vs2, d2, ds2, p2, q2, rfl, rfl, rfl, h2, r2⟩ := trodAll_cons r1
  obtain ⟨rfl, rfl, rfl⟩ := trodAll_nil r2
  obtain rfl : args = #[v0, v1, v2] := by cases args; simp_all
  obtain ⟨rfl, rfl⟩ := trodVars_none hV
  have k0 := h0
  have lt0 : ∀ x ∈ p0, x.block < W.heap.size := by obtain ⟨m, hm⟩ := k0; exact DataW.trod_lt m _ _ _ hm
  obtain ⟨B0, hB0⟩ := open_dts h0 (okWide_slice Tryz.underlying22 (hval 0 22 v0 rfl rfl)) (by
    rw [List.all_eq_true] at hsz
    intro n hn
    have := hsz n (DataW.weights_mem_each (t := 22) (j := 0) rfl rfl n hn)
    simpa using this)
  have k1 := h1
  have lt1 : ∀ x ∈ p1, x.block < W.heap.size := by obtain ⟨m, hm⟩ := k1; exact DataW.trod_lt m _ _ _ hm
  obtain ⟨gq1, gr1, rfl, _, _⟩ := open_ringI (hval 1 38 v1 rfl rfl) h1
  have k2 := h2
  have lt2 : ∀ x ∈ p2, x.block < W.heap.size := by obtain ⟨m, hm⟩ := k2; exact DataW.trod_lt m _ _ _ hm
  obtain ⟨B2, hB2⟩ := open_mss h2 (okWide_slice Tryz.underlying51 (hval 2 51 v2 rfl rfl)) (by
    rw [List.all_eq_true] at hsz
    intro n hn
    have := hsz n (DataW.weights_mem_each (t := 51) (j := 2) rfl rfl n hn)
    simpa using this)
  clear hA0 hval0
  refine (takes_walk v0 v2 gq1 gr1 B0 B2 W hB0 hB2).mono fun e W' ⟨he, hm⟩ => ?_
  subst he
  have bel : Below W.heap.size W W' := hm.below _ (Nat.le_refl _) (fun _ h => h.elim)
  exact ⟨_, rfl, _, _, _, [], _, [], hW', trodAll_mk1 (shut_bool Tryz.underlying4 _), (trodAll_cons_mk (Below.trod laidOut (by kernel_rfl) (of_decide_eq_true (by kernel_rfl)) k0 bel lt0) (trodAll_cons_mk (Below.trod laidOut (by kernel_rfl) (of_decide_eq_true (by kernel_rfl)) k1 bel lt1) (trodAll_cons_mk (Below.trod laidOut (by kernel_rfl) (of_decide_eq_true (by kernel_rfl)) k2 bel lt2) trodAll_mk0))), rfl, bel.frame _, fun h => by cases h⟩

theorem over : Rows.regainTakesRow.holds Tryz.pinned (OpenSpec.ofChange Rows.regainTakesSpec) :=
  OpenClaim.holds_of_wide 4 Tryz.f4 rfl rfl rfl rfl rfl rfl rfl ⟨rfl, rfl, rfl, rfl, rfl⟩ rfl rfl rfl rfl rfl (by kernel_rfl) Tryz.func4 (by kernel_rfl)
    (of_decide_eq_true (by kernel_rfl)) (by unfold Func.isWrapper; first | (rw [if_pos (by decide +kernel)]; kernel_rfl) | (rw [if_neg (by decide +kernel)]; exact ⟨rfl, rfl⟩))
    (fun os started H enc _ => lifted os started H enc)
end regainTakes
theorem regainTakes_holds : Rows.RegainTakesSaid := regainTakes.over
end Go.Proofs.YthiijonmnebjgaaGreat
namespace Go.Proofs.YthiijonmnebjgaaGreat
open Go.RowKit
/-- What is left of the document's Regain, in memory. -/
structure Dr (w : World) (q : Nat) (Y : Nat → Prop) (l : List Ms) : Prop where
  ex : ∃ v ds, Bk w q 69 #[v] ∧ RG w 43 13 v ds.length (fm ds) ∧ ds.map (·.1) = l ∧ (∀ g, v.ownBlock = some g → Y g) ∧ ∀ x ∈ ds, Own w x.2 x.1.body ∧ (∀ g, x.2.ownBlock = some g → Y g) ∧ (∀ c ∈ x.1.body, 0 ≤ c ∧ c ≤ 255) ∧ x.1.body.length ≤ 140737488355328
  px : Y q
  lt : ∀ i, Y i → i < w.heap.size
theorem Dr.mod {S : Nat → Prop} {w w' : World} {q : Nat} {Y : Nat → Prop} {l : List Ms} (h : Dr w q Y l) (hm : Mod S w w') (hS : ∀ i, Y i → ¬ S i) : Dr w' q Y l := by
  obtain ⟨⟨v, ds, h1, h2, h3, h4, h5⟩, px, lt⟩ := h
  exact ⟨⟨v, ds, h1.mod hm (hS q px), h2.mod hm (fun g hg => hS g (h4 g hg)), h3, h4, fun x hx => ⟨(h5 x hx).1.mod hm (fun g hg => hS g ((h5 x hx).2.1 g hg)), (h5 x hx).2⟩⟩, px, fun i hi => Nat.lt_of_lt_of_le (lt i hi) hm.size⟩
theorem Dr.keep {w w' : World} {q : Nat} {Y : Nat → Prop} {l : List Ms} (h : Dr w q Y l) (hm : Mod (fun _ => False) w w') : Dr w' q Y l := h.mod hm (fun _ _ h => h)
theorem Dr.more {w : World} {q : Nat} {Y Z : Nat → Prop} {l : List Ms} (h : Dr w q Y l) (hY : ∀ i, Y i → Z i) (hZ : ∀ i, Z i → i < w.heap.size) : Dr w q Z l := by
  obtain ⟨⟨v, ds, h1, h2, h3, h4, h5⟩, px, lt⟩ := h
  exact ⟨⟨v, ds, h1, h2, h3, fun g hg => hY g (h4 g hg), fun x hx => ⟨(h5 x hx).1, fun g hg => hY g ((h5 x hx).2.1 g hg), (h5 x hx).2.2⟩⟩, hY q px, hZ⟩
theorem dLeft_r {w : World} {q : Nat} {Y : Nat → Prop} {l : List Ms} (h : Dr w q Y l) : Calls Tryz.prog 10 #[.pointer (some ⟨q, 0, none⟩)] w fun e w' => e = .returned (.int .i64 (l.length : Int)) ∧ w' = w := by
  obtain ⟨v, ds, h1, h2, rfl, _⟩ := h.ex
  obtain ⟨av, cv, rfl⟩ := h2.shape
  have c1 : w.cell? ⟨q, 0, none⟩ = some (.slice av ds.length cv) := h1.cellv (j := 0) rfl
  clear h1 h2 h
  go_enter Tryz.func10, Tryz.ntmps10
  go_wp2
  go_ret
  exact ⟨by simp, rfl⟩
theorem dNext_nil {w : World} {q : Nat} {Y : Nat → Prop} (h : Dr w q Y []) : Calls Tryz.prog 13 #[.pointer (some ⟨q, 0, none⟩)] w fun e w' => e = .returned (.tuple #[mvl m0 (.slice none 0 0), .int .i64 8]) ∧ Mod (fun _ => False) w w' := by
  have hA := (Mod.refl (fun _ => False) w).alloc (.cells #[.int .i64 0, .int .i64 0, .int .i64 0, .int .i64 0, .int .i64 0, .int .i64 0, .int .i64 0, .bool false, .int .i64 0, .int .i64 0, .int .i64 0, .int .i64 0, .slice none 0 0] 43)
  have hB := Bk.new w #[.int .i64 0, .int .i64 0, .int .i64 0, .int .i64 0, .int .i64 0, .int .i64 0, .int .i64 0, .bool false, .int .i64 0, .int .i64 0, .int .i64 0, .int .i64 0, .slice none 0 0] 43
  obtain ⟨v, ds, h1, h2, h3, _⟩ := h.ex
  obtain rfl : ds = [] := by simpa using h3
  obtain ⟨av, cv, rfl⟩ := h2.shape
  have c1 : (w.alloc (.cells #[.int .i64 0, .int .i64 0, .int .i64 0, .int .i64 0, .int .i64 0, .int .i64 0, .int .i64 0, .bool false, .int .i64 0, .int .i64 0, .int .i64 0, .int .i64 0, .slice none 0 0] 43)).cell? ⟨q, 0, none⟩ = some (.slice av 0 cv) := (h1.mod hA (fun h => h)).cellv (j := 0) rfl
  have HA : Hid (Mod _ _ _) := hA
  clear h1 h2 h3 h hA
  go_enter Tryz.func13, Tryz.ntmps13
  go_wp2_with (refine wpList_store_row infoM rfl rfl _ _ rfl w.heap.size #[.int .i64 0, .int .i64 0, .int .i64 0, .int .i64 0, .int .i64 0, .int .i64 0, .int .i64 0, .bool false, .int .i64 0, .int .i64 0, .int .i64 0, .int .i64 0, .slice none 0 0] rfl rfl hB rfl rfl rfl ?_; intro wF hBF hMF)
  refine bodyPost_ret (resT2 infoM Tryz.underlying43 rfl rfl rfl rfl hBF rfl) rfl ?_
  exact ⟨rfl, HA.out.trans hMF (V := fun _ => False) (fun _ _ h => h) (fun i hi h => by omega)⟩
set_option maxRecDepth 100000 in
set_option maxHeartbeats 4000000 in
theorem dNext_cons {w : World} {q : Nat} {Y : Nat → Prop} {m : Ms} {l : List Ms} (h : Dr w q Y (m :: l)) : Calls Tryz.prog 13 #[.pointer (some ⟨q, 0, none⟩)] w fun e w' => ∃ v, e = .returned (.tuple #[mvl m v, .int .i64 0]) ∧ Own w' v m.body ∧ (∀ g, v.ownBlock = some g → w.heap.size ≤ g) ∧ (∀ c ∈ m.body, 0 ≤ c ∧ c ≤ 255) ∧ m.body.length ≤ 140737488355328 ∧ Dr w' q Y l ∧ Mod Y w w' := by
  have hA := (Mod.refl (fun _ => False) w).alloc (.cells #[.int .i64 0, .int .i64 0, .int .i64 0, .int .i64 0, .int .i64 0, .int .i64 0, .int .i64 0, .bool false, .int .i64 0, .int .i64 0, .int .i64 0, .int .i64 0, .slice none 0 0] 43)
  have hB := Bk.new w #[.int .i64 0, .int .i64 0, .int .i64 0, .int .i64 0, .int .i64 0, .int .i64 0, .int .i64 0, .bool false, .int .i64 0, .int .i64 0, .int .i64 0, .int .i64 0, .slice none 0 0] 43
  have hA' := h.keep hA
  obtain ⟨⟨v, ds, h1, h2, h3, h4, h5⟩, px, lt⟩ := h
  obtain ⟨⟨m', v0⟩, dsr, rfl⟩ : ∃ d r, ds = d :: r := by
    cases ds with
    | nil => simp at h3
    | cons a r => exact ⟨a, r, rfl⟩
  simp only [List.map_cons, List.cons.injEq] at h3
  obtain ⟨rfl, h3⟩ := h3
  obtain ⟨xo, xg, xr, xb⟩ := h5 _ (List.mem_cons_self ..)
  simp only at xo xg xr xb
  obtain ⟨ao, cap, rfl⟩ := xo.shape
  obtain ⟨gb, ob, cg, ev, hrg⟩ := (h2.mod hA (fun _ _ h => h)).range (by simp)
  subst ev
  simp only [List.length_cons] at h1 h2 h4
  have hra : (w.alloc (.cells #[.int .i64 0, .int .i64 0, .int .i64 0, .int .i64 0, .int .i64 0, .int .i64 0, .int .i64 0, .bool false, .int .i64 0, .int .i64 0, .int .i64 0, .int .i64 0, .slice none 0 0] 43)).rangeAt gb ob (mcl m' (.slice ao m'.body.length cap)) := fun j c hj => hrg j c (by
    have := fm_get ((m', .slice ao m'.body.length cap) :: dsr) 0 _ rfl j c hj
    simpa using this)
  have c1 : (w.alloc (.cells #[.int .i64 0, .int .i64 0, .int .i64 0, .int .i64 0, .int .i64 0, .int .i64 0, .int .i64 0, .bool false, .int .i64 0, .int .i64 0, .int .i64 0, .int .i64 0, .slice none 0 0] 43)).cell? ⟨q, 0, none⟩ = some (.slice (some ⟨gb, ob, none⟩) (dsr.length + 1) cg) := (h1.mod hA (fun h => h)).cellv (j := 0) rfl
  have HC := copy_m m' _ _ ((xo.sl xr).mod hA (fun _ _ h => h)) xb
  obtain ⟨an, han⟩ : ∃ an, (if cg = 1 then some ⟨gb, ob, none⟩ else (some ⟨gb, ob, none⟩ : Option Addr).map (·.add 13)) = an := ⟨_, rfl⟩
  have HAN : Hid ((if cg = 1 then some ⟨gb, ob, none⟩ else (some ⟨gb, ob, none⟩ : Option Addr).map (·.add 13)) = an) := han
  have HR : Hid (RG w 43 13 (.slice (some ⟨gb, ob, none⟩) (dsr.length + 1) cg) (dsr.length + 1) (fm ((m', .slice ao m'.body.length cap) :: dsr))) := h2
  have HK : Hid (Bk w q 69 #[.slice (some ⟨gb, ob, none⟩) (dsr.length + 1) cg]) := h1
  have HY : Hid (Y gb ∧ Y q ∧ (∀ i, Y i → i < w.heap.size)) := ⟨h4 gb rfl, px, lt⟩
  have H5 : Hid (∀ x ∈ dsr, Own w x.2 x.1.body ∧ (∀ g, x.2.ownBlock = some g → Y g) ∧ (∀ c ∈ x.1.body, 0 ≤ c ∧ c ≤ 255) ∧ x.1.body.length ≤ 140737488355328) := fun x hx => h5 x (List.mem_cons_of_mem _ hx)
  have H3 : Hid (dsr.map (·.1) = l) := h3
  have HX : Hid ((∀ c ∈ m'.body, 0 ≤ c ∧ c ≤ 255) ∧ m'.body.length ≤ 140737488355328) := ⟨xr, xb⟩
  have HA : Hid (Mod _ _ _) := hA
  have HB : Hid (Bk _ _ _ _) := hB
  have hln : ¬ (dsr.length : Int) + 1 = 0 := by omega
  have hle : (0 : Int) < (dsr.length : Int) + 1 := by omega
  have hle2 : (1 : Int) ≤ (dsr.length : Int) + 1 := by omega
  clear h1 h2 h3 h4 h5 hrg han xo xg xr xb px lt hA' hA hB
  go_enter Tryz.func13, Tryz.ntmps13
  go_wp2_with (first | (refine wpList_load_at infoM Tryz.underlying43 rfl rfl _ rfl gb ob rfl _ hra rfl ?_; unfold mcl; simp only [Act.put, List.setIfInBounds_toArray, List.set_cons_succ, List.set_cons_zero]))
  unfold mvl at HC
  refine HC.mono ?_
  rintro e w2 ⟨v2, rfl, ho, hm, hg⟩
  obtain ⟨a2, c2, rfl⟩ := ho.shape
  have c12 := hm.cell c1 (fun h => h)
  have HO : Hid (Own w2 (.slice a2 m'.body.length c2) m'.body) := ho
  have HG : Hid (∀ g, (Value.slice a2 m'.body.length c2).ownBlock = some g → w.heap.size ≤ g) := fun g h => by have := hg g h; simp at this; omega
  have HM2 : Hid (Mod (fun _ => False) w w2) := HA.out.and hm
  have HB2 : Hid (Bk w2 w.heap.size 43 #[.int .i64 0, .int .i64 0, .int .i64 0, .int .i64 0, .int .i64 0, .int .i64 0, .int .i64 0, .bool false, .int .i64 0, .int .i64 0, .int .i64 0, .int .i64 0, .slice none 0 0]) := HB.out.mod hm (fun h => h)
  clear HC hra c1 ho hg
  go_upto_region 4 with (refine wpList_store_row infoM rfl rfl _ _ rfl w2.heap.size #[.int .i64 m'.kind, .int .i64 m'.origin, .int .i64 m'.life, .int .i64 m'.id, .int .i64 m'.part, .int .i64 m'.parts, .int .i64 m'.groups, .bool m'.safe, .int .i64 m'.st, .int .i64 m'.rs, .int .i64 m'.rr, .int .i64 m'.sq, (.slice a2 m'.body.length c2)] rfl rfl (Bk.new w2 _ _) rfl rfl rfl ?_; intro w3 hB4 hm3)
  have HM3 : Hid (Mod (fun _ => False) w2 w3) := ((Mod.refl (fun _ => False) w2).alloc _).trans hm3 (V := fun _ => False) (fun _ _ h => h) (fun i hi e => by omega)
  have c13 := HM3.out.cell c12 (fun h => h)
  have hM23 : Mod (fun _ => False) w w3 := HM2.out.and HM3.out
  have hR3 := HR.out.mod hM23 (fun _ _ h => h)
  have hK3 := HK.out.mod hM23 (fun h => h)
  rw [show fm ((m', Value.slice ao m'.body.length cap) :: dsr) = mcl m' (.slice ao m'.body.length cap) ++ fm dsr from rfl] at hR3
  have f14 := hK3.frz 0
  have hK5 := hK3.set 0 (.slice an dsr.length (cg - 1))
  simp only [List.setIfInBounds_toArray, List.set_cons_zero] at hK5
  obtain ⟨hR5, hR5o⟩ := RG.tail (ds := mcl m' (.slice ao m'.body.length cap)) (show (mcl m' (.slice ao m'.body.length cap)).length = 13 from rfl) hR3 HAN.out
  have hm5 := (Mod.refl (fun i => i = q) w3).setCell ⟨q, 0, none⟩ (.slice an dsr.length (cg - 1)) (.inl rfl)
  have hR6 := hR5.mod hm5 (fun g hg e => hK3.ne_rm (by decide) hR5 (e ▸ hg))
  have hy := HY.out
  have hsz2 := HM2.out.size
  have hsz3 := HM3.out.size
  have hB5 := hB4.mod hm5 (fun e => by have := hy.2.2 q hy.2.1; omega)
  have hB25 := (HB2.out.mod HM3.out (fun h => h)).mod hm5 (fun e => by have := hy.2.2 q hy.2.1; omega)
  have hMM : Mod Y w (w3.setCell ⟨q, 0, none⟩ (.slice an dsr.length (cg - 1))) := hM23.none.trans hm5 (V := Y) (fun _ _ h => h) (fun i _ e => e ▸ hy.2.1)
  have hMO : ∀ u lb, Own w3 u lb → Own (w3.setCell ⟨q, 0, none⟩ (.slice an dsr.length (cg - 1))) u lb := fun u lb hu => hu.mod hm5 (fun g hg e => hK3.ne_ow (by decide) hu (e ▸ hg))
  have hO6 := hMO _ _ (HO.out.mod HM3.out (fun _ _ h => h))
  have HS6 : Hid (w3.heap.size ≤ (w3.setCell ⟨q, 0, none⟩ (.slice an dsr.length (cg - 1))).heap.size) := hm5.size
  have H56 : Hid (∀ x ∈ dsr, Own (w3.setCell ⟨q, 0, none⟩ (.slice an dsr.length (cg - 1))) x.2 x.1.body ∧ (∀ g, x.2.ownBlock = some g → Y g) ∧ (∀ c ∈ x.1.body, 0 ≤ c ∧ c ≤ 255) ∧ x.1.body.length ≤ 140737488355328) := fun x hx => ⟨hMO _ _ ((H5.out x hx).1.mod hM23 (fun _ _ h => h)), (H5.out x hx).2⟩
  have HR6 : Hid (RG _ _ _ _ _ _) := hR6
  have HR5O : Hid (∀ g, (Value.slice an dsr.length (cg - 1)).ownBlock = some g → g = gb) := fun g hg => by have := hR5o g hg; simp [Value.ownBlock] at this; exact this.symm
  have HK5 : Hid (Bk _ _ _ _) := hK5
  have HMM : Hid (Mod _ _ _) := hMM
  have HO6 : Hid (Own _ _ _) := hO6
  have HB25 : Hid (Bk _ _ _ _) := hB25
  have HB5 : Hid (Bk _ _ _ _) := hB5
  clear hR3 hR5 hR6 hK3 hK5 hm5 hMM hMO hB4 hm3 c12 hR5o hO6 hB25 hB5 hy hsz2 hsz3 hM23
  go_upto_region 5 with (refine wpList_val (by rfl) (exec_cutG elM elemM HAN.out rfl rfl rfl) ?_; simp only [Act.put, List.setIfInBounds_toArray, List.set_cons_succ, List.set_cons_zero])
  generalize w3.setCell ⟨q, 0, none⟩ (.slice an dsr.length (cg - 1)) = w6 at *
  have hK25 := HB25.out
  have hK45 := HB5.out
  go_wp2_with (first | (refine wpList_load_row infoM Tryz.underlying43 rfl rfl _ rfl w2.heap.size rfl hK45 rfl ?_; simp only [Act.put, List.setIfInBounds_toArray, List.set_cons_succ, List.set_cons_zero]) | (refine wpList_store_row infoM rfl rfl _ _ rfl w.heap.size #[.int .i64 m'.kind, .int .i64 m'.origin, .int .i64 m'.life, .int .i64 m'.id, .int .i64 m'.part, .int .i64 m'.parts, .int .i64 m'.groups, .bool m'.safe, .int .i64 m'.st, .int .i64 m'.rs, .int .i64 m'.rr, .int .i64 m'.sq, (.slice a2 m'.body.length c2)] rfl rfl hK25 rfl rfl rfl ?_; intro wF hBF hMF))
  refine bodyPost_ret (resT2 infoM Tryz.underlying43 rfl rfl rfl rfl hBF rfl) rfl ?_
  have hy := HY.out
  have hs6 := HS6.out
  have hs2 := HM2.out.size
  have hs3 := HM3.out.size
  have hsF := hMF.size
  have hOF : ∀ u lb, Own w6 u lb → Own wF u lb := fun u lb hu => hu.mod hMF (fun g hg e => hK25.ne_ow (by decide) hu (e ▸ hg))
  refine ⟨_, rfl, hOF _ _ HO6.out, HG.out, HX.out.1, HX.out.2, ⟨⟨_, dsr, HK5.out.mod hMF (fun e => by have := hy.2.2 q hy.2.1; omega), HR6.out.mod hMF (fun g hg e => by have := HR5O.out g hg; have := hy.2.2 gb hy.1; omega), H3.out, fun g hg => (HR5O.out g hg) ▸ hy.1, fun x hx => ⟨hOF _ _ (H56.out x hx).1, (H56.out x hx).2⟩⟩, hy.2.1, fun i hi => by have := hy.2.2 i hi; omega⟩, HMM.out.trans hMF (V := Y) (fun _ _ h => h) (fun i hi e => by omega)⟩
end Go.Proofs.YthiijonmnebjgaaGreat
namespace Go.Proofs.YthiijonmnebjgaaGreat
open Go.RowKit
/-- Old of data, as a call of regain's. -/
theorem dOld_d (d : Dt) (v : Value) (w : World) (hs : Sl w v d.m.body) :
    Calls Tryz.prog 35 #[dv d v] w fun e w' => ∃ m v', e = .returned (.tuple #[mvl m v', .int .i64 (olD d)]) ∧ Mod (fun _ => False) w w' ∧ (olD d = 0 → m = oldm d ∧ Own w' v' (oldm d).body ∧ (∀ g, v'.ownBlock = some g → w.heap.size ≤ g)) ∧ (olD d ≠ 0 → m = m0 ∧ v' = .slice none 0 0) := by
  obtain ⟨ao, cap, rfl⟩ := hs.shape
  obtain ⟨dq, dr, dn, ds, dt, k, o, lf, i, p, ps, g, s, st, rs, rr, sq, l⟩ := d
  refine (dOld dq dr dn ds dt k o lf i p ps g s st rs rr sq ao cap l w hs).mono ?_
  rintro e w' ⟨k', o', lf', i', p', ps', g', s', st', rs', rr', sq', bv', rfl, hm, h0, h1⟩
  by_cases h : olE dt dq dr dn ds ⟨k, o, lf, i, p, ps, g, s, st, rs, rr, sq, l⟩ = 0
  · obtain ⟨⟨e1, e2, e3, e4, e5, e6, e7, e8, e9, e10, e11, e12⟩, ho, hg⟩ := h0 h
    exact ⟨oldm ⟨dq, dr, dn, ds, dt, ⟨k, o, lf, i, p, ps, g, s, st, rs, rr, sq, l⟩⟩, bv', by subst_vars; rfl, hm, fun _ => ⟨rfl, ho, hg⟩, fun hh => absurd h hh⟩
  · obtain ⟨e1, e2, e3, e4, e5, e6, e7, e8, e9, e10, e11, e12, e13⟩ := h1 h
    exact ⟨m0, bv', by subst_vars; rfl, hm, fun hh => absurd hh h, fun _ => ⟨rfl, e13⟩⟩
/-- Behind the append and its store. -/
structure D9 (w wx : World) (q B : Nat) (L : List Ms) : Prop where
  rg : Dr wx q (fun i => i = q ∨ B ≤ i ∧ i < wx.heap.size) L
  md : Mod (fun i => i = q ∨ B ≤ i) w wx
/-- One more in the row, and the slice stored. -/
theorem Dr.put {w w3 w4 : World} {q B : Nat} {v v' u : Value} {ds : List (Ms × Value)} {m : Ms} (h1 : Bk w q 69 #[v]) (h2 : RG w 43 13 v ds.length (fm ds)) (h4 : ∀ g, v.ownBlock = some g → B ≤ g) (h5 : ∀ x ∈ ds, Own w x.2 x.1.body ∧ (∀ g, x.2.ownBlock = some g → B ≤ g) ∧ (∀ c ∈ x.1.body, 0 ≤ c ∧ c ≤ 255) ∧ x.1.body.length ≤ 140737488355328) (hq : q < w.heap.size) (hB : B ≤ w.heap.size)
    (hm3 : Mod (fun _ => False) w w3) (ho : Own w u m.body) (hu : ∀ g, u.ownBlock = some g → B ≤ g) (hr : ∀ c ∈ m.body, 0 ≤ c ∧ c ≤ 255) (hb : m.body.length ≤ 140737488355328)
    (hm4 : Mod (fun k => v.ownBlock = some k) w3 w4) (hf : Fr w3 v v') (hR : RG w4 43 13 v' (ds.length + 1) (fm ds ++ mcl m u)) :
    D9 w (w4.setCell ⟨q, 0, none⟩ v') q B (ds.map (·.1) ++ [m]) := by
  have hpv := h1.ne_rm (by decide) h2
  have b4 : Bk w4 q 69 #[v] := (h1.mod hm3 (fun h => h)).mod hm4 hpv
  have b5 := b4.set 0 v'
  simp only [List.setIfInBounds_toArray, List.set_cons_zero] at b5
  have hm5 := (Mod.refl (fun i => i = q) w4).setCell ⟨q, 0, none⟩ v' (.inl rfl)
  have hsz := hm3.size
  have hsz4 := hm4.size
  have hsz5 := hm5.size
  have neu : ∀ x l, Own w3 x l → ∀ g, x.ownBlock = some g → ¬ v.ownBlock = some g := fun x l hx g hg e => by
    obtain ⟨c1, k1⟩ := (h2.mod hm3 (fun _ _ h => h)).kind e
    obtain ⟨c2, k2⟩ := hx.kind hg
    rw [k1] at k2
    simp at k2
  have hR5 := hR.mod hm5 (fun g hg e => b4.ne_rm (by decide) hR (e ▸ hg))
  have own5 : ∀ x l, Own w x l → Own (w4.setCell ⟨q, 0, none⟩ v') x l := fun x l hx => by
    have a3 := hx.mod hm3 (fun _ _ h => h)
    have a4 := a3.mod hm4 (neu _ _ a3)
    exact a4.mod hm5 (fun g hg e => b4.ne_ow (by decide) a4 (e ▸ hg))
  refine ⟨⟨⟨v', ds ++ [(m, u)], b5, ?_, by simp, fun g hg => ?_, fun x hx => ?_⟩, .inl rfl, fun i hi => ?_⟩, ?_⟩
  · rw [List.length_append, fm_app, show fm [(m, u)] = mcl m u by simp [fm]]
    exact hR5
  · have hl := hR.lt g hg
    refine .inr ⟨?_, by omega⟩
    rcases hf g hg with h | h
    · exact h4 g h
    · omega
  · rcases List.mem_append.1 hx with hx | hx
    · obtain ⟨a1, a2, a3⟩ := h5 x hx
      exact ⟨own5 _ _ a1, fun g hg => .inr ⟨a2 g hg, (own5 _ _ a1).lt g hg⟩, a3⟩
    · simp at hx
      subst hx
      exact ⟨own5 _ _ ho, fun g hg => .inr ⟨hu g hg, (own5 _ _ ho).lt g hg⟩, hr, hb⟩
  · rcases hi with hi | hi
    · omega
    · exact hi.2
  · refine (hm3.none.trans hm4 (V := fun i => i = q ∨ B ≤ i) (fun _ _ h => h) (fun i _ e => .inr (h4 i e))).trans hm5 (fun _ _ h => h) (fun i _ e => .inl e)
set_option maxRecDepth 100000 in
set_option maxHeartbeats 8000000 in
theorem dRNew {w : World} {p : Nat} {X : Nat → Prop} {L : List Dt} {top : Int} (hw : Dwn w p X L top) (hl : L.length ≤ 100000) (hdis : Dis L) (low : Int) (hz : ∀ zs, Ks (jl L) low zs → zs.length ≤ 1000) : Calls Tryz.prog 8 #[.pointer (some ⟨p, 0, none⟩), .int .i64 low] w fun e w' => ∃ q zs, e = .returned (.tuple #[.pointer (some ⟨q, 0, none⟩), .int .i64 0]) ∧ Ks (jl L) low zs ∧ Dr w' q (fun i => w.heap.size ≤ i ∧ i < w'.heap.size) (snt (zs.map (fun k => ((jl L) k).getD d0))) ∧ Mod (fun _ => False) w w' := by
  have hA := (Mod.refl (fun _ => False) w).alloc (.cells #[.slice none 0 0] 69)
  have HAB := dAbove (hw.keep hA) hl hdis low
  have hB := Bk.new w #[.slice none 0 0] 69
  have HB : Hid (Bk _ _ _ _) := hB
  have HA : Hid (Mod _ _ _) := hA
  clear hA hB hw
  go_enter Tryz.func8, Tryz.ntmps8
  go_wp2_with (fail)
  refine HAB.mono ?_
  rintro e w1 ⟨v, ds, zs, rfl, hR, hK, hmap, hm⟩
  have hl := hz zs hK
  obtain ⟨av, cv, rfl⟩ := hR.row.shape
  obtain ⟨q, eq⟩ : ∃ q, q = w.heap.size := ⟨_, rfl⟩
  have hsz1 := hm.size
  simp at hsz1
  have HB1 : Hid (Bk w1 q 69 #[.slice none 0 0]) := eq ▸ HB.out.mod hm (fun h => h)
  have HM1 : Hid (Mod (fun _ => False) w w1) := HA.out.and hm
  have HQ : Hid (q = w.heap.size) := eq
  have HQ1 : Hid (q < w1.heap.size) := by show _ < _; omega
  have HRD : Hid (Rd18 w1 (q + 1) (.slice av ds.length cv) ds) := hR.base (by simp; omega)
  rw [← eq]
  have HKS : Hid (Ks (jl L) low zs ∧ zs.length ≤ 1000 ∧ ds.map (·.1) = zs.map (fun k => ((jl L) k).getD d0)) := ⟨hK, hl, hmap⟩
  have hdl : ds.length ≤ 1000000 := by have := congrArg List.length hmap; simp at this; omega
  have hdlI : (ds.length : Int) ≤ 1000000 := by omega
  clear hR hK hmap hl hm HB HA HAB eq hsz1 hz
  go_wp2_with (fail)
  obtain ⟨B, eB⟩ : ∃ B, B = w1.heap.size := ⟨_, rfl⟩
  have HBQ : Hid (B = w1.heap.size ∧ q < B) := ⟨eB, by have := HQ1.out; omega⟩
  go_loopw [8] (fun i wr => ∃ (j : Nat), i = .int .i64 (j : Int) ∧ j ≤ ds.length ∧ Dr wr q (fun i => i = q ∨ B ≤ i ∧ i < wr.heap.size) (snt ((ds.take j).map (·.1))) ∧ Mod (fun i => i = q) w1 wr) (fun i _ => ds.length - (intOf i).toNat)
  case atStart => exact ⟨0, rfl, Nat.zero_le _, ⟨⟨_, [], HB1.out, RG.nil _ _ _, by simp [snt], by simp [Value.ownBlock], by simp⟩, .inl rfl, fun i hi => by have := HBQ.out; rcases hi with hi | hi <;> omega⟩, Mod.refl _ _⟩
  case round =>
    obtain ⟨j, rfl, hj, hG, hMr⟩ := hrel
    by_cases hlt : j < ds.length
    · have hlt' : (j : Int) < (ds.length : Int) := by omega
      obtain ⟨x, hx⟩ : ∃ x, ds[j]? = some x := ⟨ds[j], List.getElem?_eq_getElem hlt⟩
      have hRDr := HRD.out.mod hMr (fun g hg e => by omega)
      obtain ⟨gb, of, cp, e, hrg⟩ := hRDr.row.range (by omega)
      cases e
      obtain ⟨xo, xn, xr⟩ := hRDr.each x (List.mem_of_getElem? hx)
      obtain ⟨d, u⟩ := x
      simp only at xo xn xr
      obtain ⟨ax, cx, rfl⟩ := xo.shape
      have hra : wr.rangeAt gb (of + j * 18) (dcl d (.slice ax d.m.body.length cx)) := fun t c ht => by
        have := hrg (j * 18 + t) c (fd_get ds j _ hx t c ht)
        rwa [← Nat.add_assoc] at this
      have HX : Hid (ds[j]? = some (d, .slice ax d.m.body.length cx)) := hx
      have hb1 : (0 : Int) ≤ (j : Int) := by omega
      have hjb : (j : Int) + 1 ≤ 1000000 := by omega
      have HLT : Hid (j < ds.length) := hlt
      have HXO : Hid (Own wr (.slice ax d.m.body.length cx) d.m.body ∧ (∀ c ∈ d.m.body, 0 ≤ c ∧ c ≤ 255)) := ⟨xo, xr⟩
      have HG : Hid (Dr wr q (fun i => i = q ∨ B ≤ i ∧ i < wr.heap.size) (snt ((ds.take j).map (·.1)))) := hG
      have HMR : Hid (Mod (fun i => i = q) w1 wr) := hMr
      clear hrg hx xo xn xr hRDr hG hlt hMr
      have HC := dOld_d d _ wr (HXO.out.1.sl HXO.out.2)
      unfold dv mvl at HC
      go_wp2_with (first | (refine wpList_load_at info18 Tryz.underlying45 rfl rfl _ rfl gb (of + j * 18) rfl _ hra rfl ?_; unfold dcl; simp only [Act.put, List.setIfInBounds_toArray, List.set_cons_succ, List.set_cons_zero]))
      refine HC.mono ?_
      rintro e w3 ⟨m, v3, rfl, hm3, hy, hn⟩
      clear HC hra
      obtain ⟨z, hz⟩ : ∃ z, olD d = z := ⟨_, rfl⟩
      have HZ : Hid (olD d = z) := hz
      rw [hz] at hy hn ⊢
      clear hz
      have HM3 : Hid (Mod (fun _ => False) wr w3) := hm3
      have HYN : Hid (z = 0 → m = oldm d ∧ Own w3 v3 (oldm d).body ∧ (∀ g, v3.ownBlock = some g → wr.heap.size ≤ g)) := hy
      obtain ⟨ao, nn, cc, rfl⟩ : ∃ ao nn cc, v3 = .slice ao nn cc := by
        by_cases h0 : z = 0
        · obtain ⟨_, ho, _⟩ := hy h0
          obtain ⟨a1, c1, rfl⟩ := ho.shape
          exact ⟨_, _, _, rfl⟩
        · obtain ⟨_, rfl⟩ := hn h0
          exact ⟨_, _, _, rfl⟩
      clear hy hn hm3
      go_upto_region 7 with (refine wpList_store_row infoM rfl rfl _ _ rfl w3.heap.size #[.int .i64 m.kind, .int .i64 m.origin, .int .i64 m.life, .int .i64 m.id, .int .i64 m.part, .int .i64 m.parts, .int .i64 m.groups, .bool m.safe, .int .i64 m.st, .int .i64 m.rs, .int .i64 m.rr, .int .i64 m.sq, (.slice ao nn cc)] rfl rfl (Bk.new w3 _ _) rfl rfl rfl ?_; intro w4 hB4 hm4)
      have HM4 : Hid (Mod (fun _ => False) wr w4) := HM3.out.and (((Mod.refl (fun _ => False) w3).alloc _).trans hm4 (V := fun _ => False) (fun _ _ h => h) (fun i hi e => by omega))
      have HM34 : Hid (Mod (fun _ => False) w3 w4) := ((Mod.refl (fun _ => False) w3).alloc _).trans hm4 (V := fun _ => False) (fun _ _ h => h) (fun i hi e => by omega)
      clear hm4
      by_cases h0 : z = 0
      · obtain ⟨em, hown, hnew⟩ := HYN.out h0
        subst h0
        obtain ⟨mb, emb⟩ : ∃ mb, mb = w3.heap.size := ⟨_, rfl⟩
        rw [← emb] at hB4 ⊢
        clear emb
        have k0 : w4.cell? ⟨mb, 0, none⟩ = some (.int .i64 m.kind) := hB4.cellv (j := 0) rfl
        have k1 : w4.cell? ⟨mb, 1, none⟩ = some (.int .i64 m.origin) := hB4.cellv (j := 1) rfl
        have k2 : w4.cell? ⟨mb, 2, none⟩ = some (.int .i64 m.life) := hB4.cellv (j := 2) rfl
        have k3 : w4.cell? ⟨mb, 3, none⟩ = some (.int .i64 m.id) := hB4.cellv (j := 3) rfl
        have k4 : w4.cell? ⟨mb, 4, none⟩ = some (.int .i64 m.part) := hB4.cellv (j := 4) rfl
        have k5 : w4.cell? ⟨mb, 5, none⟩ = some (.int .i64 m.parts) := hB4.cellv (j := 5) rfl
        have k6 : w4.cell? ⟨mb, 6, none⟩ = some (.int .i64 m.groups) := hB4.cellv (j := 6) rfl
        have k7 : w4.cell? ⟨mb, 7, none⟩ = some (.bool m.safe) := hB4.cellv (j := 7) rfl
        have k8 : w4.cell? ⟨mb, 8, none⟩ = some (.int .i64 m.st) := hB4.cellv (j := 8) rfl
        have k9 : w4.cell? ⟨mb, 9, none⟩ = some (.int .i64 m.rs) := hB4.cellv (j := 9) rfl
        have k10 : w4.cell? ⟨mb, 10, none⟩ = some (.int .i64 m.rr) := hB4.cellv (j := 10) rfl
        have k11 : w4.cell? ⟨mb, 11, none⟩ = some (.int .i64 m.sq) := hB4.cellv (j := 11) rfl
        have k12 : w4.cell? ⟨mb, 12, none⟩ = some (.slice ao nn cc) := hB4.cellv (j := 12) rfl
        have hG4 := HG.out.keep HM4.out
        obtain ⟨v, dr, h1, h2, h3, h4, h5⟩ := hG4.ex
        obtain ⟨al, cl, rfl⟩ := h2.shape
        have c1 : w4.cell? ⟨q, 0, none⟩ = some (.slice al dr.length cl) := h1.cellv (j := 0) rfl
        have hA3 := (Mod.refl (fun _ => False) w4).alloc (.cells (mcl m (.slice ao nn cc)).toArray 43)
        have hdr := (Mod.refl (fun _ => False) (w4.alloc (.cells (mcl m (.slice ao nn cc)).toArray 43))).drew
        have hSG : SG (w4.alloc (.cells (mcl m (.slice ao nn cc)).toArray 43)).drew 13 (.slice (some ⟨w4.heap.size, 0, none⟩) 1 1) 1 (mcl m (.slice ao nn cc)) := SG.lit w4.drew 43 (mcl m (.slice ao nn cc)) (mcl_one m ao _ cc)
        have hR3 := (h2.mod hA3 (fun _ _ h => h)).mod hdr (fun _ _ h => h)
        have c1a : (w4.alloc (.cells (mcl m (.slice ao nn cc)).toArray 43)).cell? ⟨q, 0, none⟩ = some (.slice al dr.length cl) := hA3.cell c1 (fun h => h)
        have c1b := hdr.cell c1a (fun h => h)
        have HDA : Hid (Mod (fun _ => False) w4 (w4.alloc (.cells (mcl m (.slice ao nn cc)).toArray 43)).drew) := hA3.and hdr
        have HKA : Hid (Bk (w4.alloc (.cells (mcl m (.slice ao nn cc)).toArray 43)).drew q 69 #[.slice al dr.length cl]) := (h1.mod hA3 (fun h => h)).mod hdr (fun h => h)
        have HC1B : Hid ((w4.alloc (.cells (mcl m (.slice ao nn cc)).toArray 43)).drew.cell? ⟨q, 0, none⟩ = some (.slice al dr.length cl)) := c1b
        clear c1b
        have hqn : ¬ (Value.slice al dr.length cl).ownBlock = some q := h1.ne_rm (by decide) h2
        have HQN : Hid (¬ (Value.slice al dr.length cl).ownBlock = some q) := hqn
        have H1 : Hid (Bk w4 q 69 #[.slice al dr.length cl]) := h1
        have H2 : Hid (RG w4 43 13 (.slice al dr.length cl) dr.length (fm dr)) := h2
        have H3 : Hid (dr.map (·.1) = snt ((ds.take j).map (·.1))) := h3
        have hszr := HM4.out.size
        have hsz34 := HM34.out.size
        have hMRz := HMR.out.size
        have hbq := HBQ.out
        have H4 : Hid (∀ g, (Value.slice al dr.length cl).ownBlock = some g → B ≤ g) := fun g hg => by
          rcases h4 g hg with h | h
          · exact absurd (h ▸ hg) hqn
          · exact h.1
        have H5 : Hid (∀ x ∈ dr, Own w4 x.2 x.1.body ∧ (∀ g, x.2.ownBlock = some g → B ≤ g) ∧ (∀ c ∈ x.1.body, 0 ≤ c ∧ c ≤ 255) ∧ x.1.body.length ≤ 140737488355328) := fun x hx => ⟨(h5 x hx).1, fun g hg => by
          rcases (h5 x hx).2.1 g hg with h | h
          · exact absurd (h ▸ hg) (h1.ne_ow (by decide) (h5 x hx).1)
          · exact h.1, (h5 x hx).2.2⟩
        have HQB : Hid (q < w4.heap.size ∧ B ≤ w4.heap.size) := ⟨by omega, by omega⟩
        have HOU : Hid (Own w4 (.slice ao nn cc) (oldm d).body ∧ (∀ g, (Value.slice ao nn cc).ownBlock = some g → B ≤ g) ∧ (∀ c ∈ (oldm d).body, 0 ≤ c ∧ c ≤ 255) ∧ (oldm d).body.length ≤ 140737488355328) := ⟨hown.mod HM34.out (fun _ _ h => h), fun g hg => by have := hnew g hg; omega, oldm_rng HXO.out.2, oldm_len HZ.out⟩
        have HBN : Hid ((dr.length + 1) * 120 ≤ 140737488355328 ∧ dr.length + 1 ≤ 9223372036854775807) := by
          have h3l := congrArg List.length h3
          have : (snt ((ds.take j).map (·.1))).length ≤ j := by
            unfold snt
            rw [List.length_map]
            refine Nat.le_trans (List.length_filter_le _ _) ?_
            rw [List.length_map]
            exact List.length_take_le _ _
          simp only [List.length_map] at h3l
          constructor <;> omega
        have HTK : Hid (snt ((ds.take (j + 1)).map (·.1)) = snt ((ds.take j).map (·.1)) ++ [m]) := by
          show _ = _
          rw [List.take_add_one, HX.out, List.map_append, em]
          exact snt_yes HZ.out
        have HEM : Hid (m = oldm d) := em
        clear h1 h2 h3 h4 h5 hG4 hown hnew hB4 hqn hszr hsz34 hMRz hbq em hdr
        clear hA3
        unfold mcl at hSG hR3 c1a
        go_upto_region 8 with (fail)
        go_region_law (refine step_appG elM (by rfl) _ _ (by rfl) _ _ dr.length 1 (fm dr) _ (by rfl) (by rfl) hR3 hSG HBN.out.1 HBN.out.2 (dr.length + 1) rfl ?_; intro ax4 cx4 w5 hRG5 hm5 hf5; have HF5 : Hid (Fr _ _ _) := hf5; clear hf5; have c15 : w5.cell? ⟨q, 0, none⟩ = some (.slice al dr.length cl) := hm5.cell HC1B.out HQN.out; have f15 : w5.frozen? ⟨q, 0, none⟩ = false := (HKA.out.mod hm5 HQN.out).frz 0)
        all_goals have hP9 := Dr.put H1.out H2.out H4.out H5.out HQB.out.1 HQB.out.2 HDA.out (HEM.out ▸ HOU.out.1) HOU.out.2.1 (HEM.out ▸ HOU.out.2.2.1) (HEM.out ▸ HOU.out.2.2.2) hm5 HF5.out hRG5
        all_goals have HREL : Hid (Dr (w5.setCell ⟨q, 0, none⟩ (.slice ax4 (dr.length + 1) cx4)) q (fun i => i = q ∨ B ≤ i ∧ i < (w5.setCell ⟨q, 0, none⟩ (.slice ax4 (dr.length + 1) cx4)).heap.size) (snt ((ds.take (j + 1)).map (·.1))) ∧ Mod (fun i => i = q) w1 (w5.setCell ⟨q, 0, none⟩ (.slice ax4 (dr.length + 1) cx4))) := ⟨by rw [HTK.out, ← H3.out]; exact hP9.rg, (HMR.out.trans HM4.out (V := fun i => i = q) (fun _ _ h => h) (fun _ _ h => h.elim)).trans hP9.md (fun _ _ h => h) (fun g hg e => by have := HBQ.out; rcases e with e | e; exact e; omega)⟩
        all_goals clear hP9 hm5 hRG5 HF5
        all_goals go_wp2
        all_goals generalize w5.setCell ⟨q, 0, none⟩ (.slice ax4 (dr.length + 1) cx4) = w6 at *
        all_goals go_roundw
        all_goals first
          | exact ⟨j + 1, by go_num, HLT.out, HREL.out.1, HREL.out.2⟩
          | (have := HLT.out; simp [intOf]; omega)
      · have HTK : Hid (snt ((ds.take (j + 1)).map (·.1)) = snt ((ds.take j).map (·.1))) := by
          show _ = _
          rw [List.take_add_one, HX.out, List.map_append]
          exact snt_no (by rw [HZ.out]; exact h0)
        have HREL : Hid (Dr w4 q (fun i => i = q ∨ B ≤ i ∧ i < w4.heap.size) (snt ((ds.take (j + 1)).map (·.1))) ∧ Mod (fun i => i = q) w1 w4) := by
          have hs := HM4.out.size
          refine ⟨?_, HMR.out.trans HM4.out (V := fun i => i = q) (fun _ _ h => h) (fun _ _ h => h.elim)⟩
          rw [HTK.out]
          refine (HG.out.keep HM4.out).more (fun i hi => ?_) (fun i hi => ?_)
          · rcases hi with hi | hi
            · exact .inl hi
            · exact .inr ⟨hi.1, by omega⟩
          · have hb := HBQ.out
            have := HMR.out.size
            rcases hi with hi | hi <;> omega
        have hb0 : (z == 0) = false := by simp [h0]
        have hbd : decide (z = 0) = false := by simp [h0]
        clear hB4 h0
        go_wp2
        go_roundw
        case rel => exact ⟨j + 1, by go_num, HLT.out, HREL.out.1, HREL.out.2⟩
        case measure =>
          have := HLT.out
          simp [intOf]
          omega
    · have HE : Hid (j = ds.length) := by show _ = _; omega
      go_wp2
      go_ret2
      have hk := HKS.out
      have hb := HBQ.out
      have hs := hMr.size
      have h1s := HM1.out.size
      refine ⟨q, zs, rfl, hk.1, ?_, HM1.out.trans hMr (V := fun _ => False) (fun _ _ h => h) (fun i hi e => by have := HQ.out; omega)⟩
      rw [← hk.2.2, show ds.map (·.1) = (ds.take j).map (·.1) by rw [HE.out, List.take_length]]
      exact hG.more (fun i hi => by have := HQ.out; rcases hi with hi | hi <;> omega) (fun i hi => hi.2)
end Go.Proofs.YthiijonmnebjgaaGreat
namespace Go.Proofs.YthiijonmnebjgaaGreat
open Go.RowKit
/-- A block of bytes that may be written. -/
def By (w : World) (g n : Nat) : Prop := ∃ cur, w.heap[g]? = some (.cells cur 5 (0, 0)) ∧ ∀ j, j < n → ∃ c, cur[j]? = some (.int .u8 c)
theorem By.cell {w : World} {g n : Nat} (h : By w g n) {j : Nat} (hj : j < n) : ∃ c, w.cell? ⟨g, j, none⟩ = some (.int .u8 c) ∧ w.frozen? ⟨g, j, none⟩ = false := by
  obtain ⟨cur, h1, h2⟩ := h
  obtain ⟨c, hc⟩ := h2 j hj
  exact ⟨c, by simp [World.cell?, h1, hc], by simp [World.frozen?, h1]⟩
theorem By.set {w : World} {g n : Nat} (h : By w g n) (j : Nat) (c : Int) : By (w.setCell ⟨g, j, none⟩ (.int .u8 c)) g n := by
  obtain ⟨cur, h1, h2⟩ := h
  refine ⟨cur.setIfInBounds j (.int .u8 c), by simp [World.setCell, Array.getElem?_modify, h1], fun t ht => ?_⟩
  obtain ⟨d, hd⟩ := h2 t ht
  rw [Array.getElem?_setIfInBounds]
  by_cases e : j = t
  · subst e
    rw [if_pos rfl]
    have : j < cur.size := by
      rcases Nat.lt_or_ge j cur.size with h | h
      · exact h
      · rw [Array.getElem?_eq_none h] at hd; cases hd
    rw [if_pos this]
    exact ⟨c, rfl⟩
  · rw [if_neg e]
    exact ⟨d, hd⟩
theorem By.mod {S : Nat → Prop} {w w' : World} {g n : Nat} (h : By w g n) (hm : Mod S w w') (hg : ¬ S g) : By w' g n := by
  obtain ⟨cur, h1, h2⟩ := h
  exact ⟨cur, hm.obj h1 hg, h2⟩
theorem By.ne {w : World} {g n b : Nat} {t : TypeId} {cur : Array Value} (h : By w g n) (hb : Bk w b t cur) (ht : t ≠ 5) : g ≠ b := fun e => by
  obtain ⟨c, h1, _⟩ := h
  rw [e, hb.at'] at h1
  simp at h1
  exact ht h1.2
theorem Own.by {w : World} {v : Value} {l : List Int} (h : Own w v l) {g : Nat} (hg : v.ownBlock = some g) : By w g l.length := by
  rcases h.2 with ⟨rfl, _⟩ | ⟨g', cap, cur, rfl, hb, hh, hn, hm, hs, ht⟩
  · simp [Value.ownBlock] at hg
  · simp only [Value.ownBlock, Option.some.injEq] at hg
    subst hg
    refine ⟨cur, hh, fun j hj => ⟨l.getD j 0, ?_⟩⟩
    have := World.ownsRow.cellAt h j (by simp; omega)
    have h2 := U_get l j hj
    rw [h2] at this
    simpa [World.cell?, hh] using this
/-- Bytes of a message in a block, being spoilt. -/
structure Sx (w7 wy : World) (S : Nat → Prop) (bi : Nat) (xs : Array Value) (a3 : Option Addr) (ln : Nat) : Prop where
  md : Mod S w7 wy
  by' : 0 < ln → ∃ g, a3 = some ⟨g, 0, none⟩ ∧ By wy g ln ∧ S g
  bk : Bk wy bi 43 xs
theorem Sx.set {w7 wy : World} {S : Nat → Prop} {bi : Nat} {xs : Array Value} {g ln : Nat} (h : Sx w7 wy S bi xs (some ⟨g, 0, none⟩) ln) (hn : 0 < ln) (j : Nat) (x : Int) : Sx w7 (wy.drew.setCell ⟨g, j, none⟩ (.int .u8 x)) S bi xs (some ⟨g, 0, none⟩) ln := by
  obtain ⟨g', e, h1, h2⟩ := h.by' hn
  cases e
  have hd := (Mod.refl (fun _ => False) wy).drew
  exact ⟨h.md.drew.setCell _ _ (.inl h2), fun _ => ⟨g, rfl, (h1.mod hd (fun h => h)).set j x, h2⟩, (h.bk.mod hd (fun h => h)).other _ _ (h1.ne h.bk (by decide))⟩
/-- How many are left, as a world tells it. -/
def lftOf (w : World) (r : Nat) : Nat := match w.cell? ⟨r, 1, none⟩ with | some (.slice _ n _) => n | _ => 0
theorem Rg.lft {w : World} {r : Nat} {Y : Nat → Prop} {l : List Ms} (h : Rg w r Y l) : lftOf w r = l.length := by
  obtain ⟨v, ds, h1, h2, rfl, _⟩ := h.ex
  obtain ⟨av, cv, rfl⟩ := h2.shape
  have c1 : w.cell? ⟨r, 1, none⟩ = some (.slice av ds.length cv) := h1.cellv (j := 1) rfl
  unfold lftOf
  rw [c1]
  simp
def d999 : Dt := ⟨1, 1, 999, 1, 0, ⟨3, 1, 0, 0, 0, 0, 0, false, 0, 0, 0, 0, []⟩⟩
set_option maxRecDepth 100000 in
set_option maxHeartbeats 20000000 in
theorem sends_walk (v0 : Value) (low : Int) (es : List (Dt × Value)) (w : World) (hD : Dts w v0 es) : Calls Tryz.prog 3 #[v0, .int .i64 low] w fun e w' => e = .returned (.bool true) ∧ Mod (fun _ => False) w w' := by
  have HWN := windows_any v0 es w hD
  obtain ⟨av0, cv0, rfl, _⟩ := hD.form
  clear hD
  go_enter Tryz.func3, Tryz.ntmps3
  go_wp2_with (fail)
  refine HWN.mono ?_
  rintro e w2 ⟨p, q, rfl, hR⟩
  obtain ⟨L, X, Y, a, hh, hP, hDs⟩ := hR.ex
  have HP2 : Hid (Pq w w2 p q (jl L) L X Y a hh hh 60 60) := hP
  have HDs : Hid (Dis L) := hDs
  have HXL2 : Hid (∀ i, X i → i < w2.heap.size) := hP.xlt
  have HW2 : Hid (w.heap.size ≤ w2.heap.size) := hP.mod.size
  have HNR := New_w hP.wn (by decide) low
  clear hR hP hDs HWN
  go_wp2_with (fail)
  refine HNR.mono ?_
  rintro e w3 ⟨r, zs, rfl, hK, hzl, hR, hm3⟩
  obtain ⟨Y1, eY1⟩ : ∃ Y : Nat → Prop, Y = (fun i => w2.heap.size ≤ i ∧ i < w3.heap.size) := ⟨_, rfl⟩
  rw [← eY1] at hR
  have HY1 : Hid (∀ i, Y1 i ↔ w2.heap.size ≤ i ∧ i < w3.heap.size) := by rw [eY1]; exact fun i => Iff.rfl
  obtain ⟨M, eM⟩ : ∃ M, snt (zs.map (fun k => ((jl L) k).getD d0)) = M := ⟨_, rfl⟩
  rw [eM] at hR
  have HR3 : Hid (Rg w3 r Y1 M) := hR
  have HP3 : Hid (Pq w w3 p q (jl L) L X Y a hh hh 60 60) := HP2.out.keep hm3
  have HK : Hid (Ks (jl L) low zs ∧ zs.length ≤ 60) := ⟨hK, hzl⟩
  have HEM : Hid (snt (zs.map (fun k => ((jl L) k).getD d0)) = M) := eM
  have HM3 : Hid (Mod (fun _ => False) w2 w3) := hm3
  have HDN := dRNew HP3.out.dw (by have := HP3.out.len; omega) HDs.out low (fun zs' h => by rw [Ks.uniq h HK.out.1 (fun _ => rfl)]; have := HK.out.2; omega)
  clear HNR hK hzl hR hm3 eY1 eM HP2
  go_wp2_with (fail)
  refine HDN.mono ?_
  rintro e w4 ⟨r2, zs2, rfl, hK2, hR2, hm4⟩
  obtain rfl := Ks.uniq HK.out.1 hK2 (fun _ => rfl)
  rw [HEM.out] at hR2
  obtain ⟨Y2, eY2⟩ : ∃ Y : Nat → Prop, Y = (fun i => w3.heap.size ≤ i ∧ i < w4.heap.size) := ⟨_, rfl⟩
  rw [← eY2] at hR2
  have HY2 : Hid (∀ i, Y2 i ↔ w3.heap.size ≤ i ∧ i < w4.heap.size) := by rw [eY2]; exact fun i => Iff.rfl
  have HD4 : Hid (Dr w4 r2 Y2 M) := hR2
  have HR4 : Hid (Rg w4 r Y1 M) := HR3.out.keep hm4
  have HP4 : Hid (Pq w w4 p q (jl L) L X Y a hh hh 60 60) := HP3.out.keep hm4
  have HX4 : Hid ((∀ i, X i → i < w2.heap.size) ∧ w2.heap.size ≤ w3.heap.size ∧ w3.heap.size ≤ w4.heap.size) := ⟨HXL2.out, HM3.out.size, hm4.size⟩
  clear HDN hK2 hR2 hm4 eY2 HR3 HP3 HM3
  have HL1 := Left_r HR4.out
  have HL2 := dLeft_r HD4.out
  go_wp2_with (first
    | (go_at_call 9; refine HL1.mono ?_; rintro e w' ⟨rfl, e1⟩; replace e1 := e1.symm; subst e1)
    | (go_at_call 10; refine HL2.mono ?_; rintro e w' ⟨rfl, e1⟩; replace e1 := e1.symm; subst e1))
  have HPU := pq_put HP4.out (by decide) d999 (.slice none 0 0) ((Own.nil w4).sl (by simp)) (by simp [d999])
  rw [show dv d999 (.slice none 0 0) = .agg #[.int .i64 1, .int .i64 1, .int .i64 999, .int .i64 1, .int .i64 0, .int .i64 3, .int .i64 1, .int .i64 0, .int .i64 0, .int .i64 0, .int .i64 0, .int .i64 0, .bool false, .int .i64 0, .int .i64 0, .int .i64 0, .int .i64 0, .slice none 0 0] from rfl] at HPU
  clear HL1 HL2
  go_wp2_with (fail)
  refine HPU.mono ?_
  rintro e w5 ⟨X5, a5, rfl, hP5, hm5, hg5⟩
  have HB : Hid (Rg w5 r Y1 M ∧ Dr w5 r2 Y2 M ∧ Mod (fun _ => False) w w5 ∧ w.heap.size ≤ w2.heap.size ∧ w4.heap.size ≤ w5.heap.size) := by
    have h1 := HY1.out
    have h2 := HY2.out
    have h3 := HX4.out
    exact ⟨HR4.out.mod hm5 (fun i hi hx => by have := (h1 i).1 hi; have := h3.1 i hx; omega), HD4.out.mod hm5 (fun i hi hx => by have := (h2 i).1 hi; have := h3.1 i hx; omega), hP5.mod, HW2.out, hm5.size⟩
  clear HPU hP5 hm5 hg5 HP4 HR4 HD4
  go_wp2_with (fail)
  go_loopw [15] (fun _ wr => ∃ l : List Ms, Hid (Rg wr r Y1 l) ∧ Hid (Dr wr r2 Y2 l) ∧ Hid (Mod (fun _ => False) w wr) ∧ Hid (w4.heap.size ≤ wr.heap.size)) (fun _ wr => lftOf wr r)
  case atStart => exact ⟨M, HB.out.1, HB.out.2.1, HB.out.2.2.1, HB.out.2.2.2.2⟩
  case round =>
    obtain ⟨l, HR, HD, HM, HS⟩ := hrel
    obtain ⟨wo, eo⟩ : ∃ W, W = wr := ⟨_, rfl⟩
    subst eo
    cases l with
    | nil =>
      have HN := Next_nil HR.out
      unfold mvl m0 at HN
      go_wp2_with (fail)
      refine HN.mono ?_
      rintro e w6 ⟨rfl, hm6⟩
      have HD6 : Hid (Dr w6 r2 Y2 []) := HD.out.keep hm6
      have HM6 : Hid (Mod (fun _ => False) w w6 ∧ Rg w6 r Y1 []) := ⟨HM.out.and hm6, HR.out.keep hm6⟩
      clear HN hm6
      go_upto_region 8 with (refine wpList_store_row infoM rfl rfl _ _ rfl w6.heap.size #[.int .i64 0, .int .i64 0, .int .i64 0, .int .i64 0, .int .i64 0, .int .i64 0, .int .i64 0, .bool false, .int .i64 0, .int .i64 0, .int .i64 0, .int .i64 0, .slice none 0 0] rfl rfl (Bk.new w6 _ _) rfl rfl rfl ?_; intro w7 hB7 hm7)
      obtain ⟨xb, exb⟩ : ∃ xb, xb = w6.heap.size := ⟨_, rfl⟩
      rw [← exb] at hB7 ⊢
      have hM67 : Mod (fun _ => False) w6 w7 := ((Mod.refl (fun _ => False) w6).alloc _).trans hm7 (V := fun _ => False) (fun _ _ h => h) (fun i hi e => by omega)
      have HN2 := dNext_nil (HD6.out.keep hM67)
      unfold mvl m0 at HN2
      have HB7 : Hid (Bk w7 xb 43 #[.int .i64 0, .int .i64 0, .int .i64 0, .int .i64 0, .int .i64 0, .int .i64 0, .int .i64 0, .bool false, .int .i64 0, .int .i64 0, .int .i64 0, .int .i64 0, .slice none 0 0]) := hB7
      have HM7 : Hid (Mod (fun _ => False) w6 w7) := hM67
      clear hB7 hm7 hM67 exb
      go_wp2_with (fail)
      refine HN2.mono ?_
      rintro e w8 ⟨rfl, hm8⟩
      have HM8 : Hid (Mod (fun _ => False) w6 w8) := HM7.out.and hm8
      have HB8 : Hid (Bk w8 xb 43 #[.int .i64 0, .int .i64 0, .int .i64 0, .int .i64 0, .int .i64 0, .int .i64 0, .int .i64 0, .bool false, .int .i64 0, .int .i64 0, .int .i64 0, .int .i64 0, .slice none 0 0]) := HB7.out.mod hm8 (fun h => h)
      clear HN2 hm8 HB7 HM7
      go_upto_region 9 with (refine wpList_store_row infoM rfl rfl _ _ rfl w8.heap.size #[.int .i64 0, .int .i64 0, .int .i64 0, .int .i64 0, .int .i64 0, .int .i64 0, .int .i64 0, .bool false, .int .i64 0, .int .i64 0, .int .i64 0, .int .i64 0, .slice none 0 0] rfl rfl (Bk.new w8 _ _) rfl rfl rfl ?_; intro w9 hB9 hm9)
      obtain ⟨yb, eyb⟩ : ∃ yb, yb = w8.heap.size := ⟨_, rfl⟩
      rw [← eyb] at hB9 ⊢
      have hM89 : Mod (fun _ => False) w8 w9 := ((Mod.refl (fun _ => False) w8).alloc _).trans hm9 (V := fun _ => False) (fun _ _ h => h) (fun i hi e => by omega)
      have hBx := HB8.out.mod hM89 (fun h => h)
      have HSM := same_m m0 (.slice none 0 0) (.slice none 0 0) w9 ((Own.nil w9).sl (by simp)) ((Own.nil w9).sl (by simp))
      unfold mvl m0 at HSM
      have HM9 : Hid (Mod (fun _ => False) w6 w9) := HM8.out.and hM89
      clear hm9 hM89 eyb HB8 HM8
      go_wp2_with (first
        | (refine wpList_load_rowg infoM Tryz.underlying43 rfl rfl _ rfl xb rfl hBx rfl ?_; simp only [Act.put, List.setIfInBounds_toArray, List.set_cons_succ, List.set_cons_zero])
        | (refine wpList_load_rowg infoM Tryz.underlying43 rfl rfl _ rfl yb rfl hB9 rfl ?_; simp only [Act.put, List.setIfInBounds_toArray, List.set_cons_succ, List.set_cons_zero]))
      refine HSM.mono ?_
      rintro e wa ⟨rfl, hma⟩
      have HMa : Hid (Mod (fun _ => False) w6 wa) := HM9.out.and hma
      have HL1 := Left_r (HM6.out.2.keep HMa.out)
      have HL2 := dLeft_r (HD6.out.keep HMa.out)
      clear HSM hma hBx hB9 HM9
      go_wp2_with (first
        | (go_at_call 9; refine HL1.mono ?_; rintro e w' ⟨rfl, e1⟩; replace e1 := e1.symm; subst e1)
        | (go_at_call 10; refine HL2.mono ?_; rintro e w' ⟨rfl, e1⟩; replace e1 := e1.symm; subst e1))
      refine (awake_any _).mono ?_
      rintro e wb ⟨rfl, hmb⟩
      have HMb : Hid (Mod (fun _ => False) w wb) := (HM6.out.1.and HMa.out).and hmb
      clear HL1 HL2
      go_wp2
      go_ret
      exact ⟨rfl, HMb.out⟩
    | cons m l =>
      have HN := Next_cons HR.out
      unfold mvl at HN
      go_wp2_with (fail)
      refine HN.mono ?_
      rintro e w6 ⟨va, rfl, hoa, hga, hra, -, hR6, hm6⟩
      obtain ⟨aa, ca, rfl⟩ := hoa.shape
      have h1 := HY1.out
      have h2 := HY2.out
      have hs1 := HX4.out
      have hsb := HB.out.2.2.2
      have HD6 : Hid (Dr w6 r2 Y2 (m :: l)) := HD.out.mod hm6 (fun i hi hx => by have := (h2 i).1 hi; have := (h1 i).1 hx; omega)
      have HR6 : Hid (Rg w6 r Y1 l) := hR6
      have HO6 : Hid (Own w6 (.slice aa m.body.length ca) m.body ∧ (∀ g, (Value.slice aa m.body.length ca).ownBlock = some g → wo.heap.size ≤ g) ∧ (∀ c ∈ m.body, 0 ≤ c ∧ c ≤ 255)) := ⟨hoa, hga, hra⟩
      have HM6 : Hid (Mod (fun _ => False) w w6 ∧ wo.heap.size ≤ w6.heap.size) := ⟨HM.out.trans hm6 (V := fun _ => False) (fun _ _ h => h) (fun i hi hx => by have := (h1 i).1 hx; omega), hm6.size⟩
      clear HN hoa hga hra hR6 hm6 h1 h2 hs1 hsb
      go_upto_region 8 with (refine wpList_store_row infoM rfl rfl _ _ rfl w6.heap.size #[.int .i64 m.kind, .int .i64 m.origin, .int .i64 m.life, .int .i64 m.id, .int .i64 m.part, .int .i64 m.parts, .int .i64 m.groups, .bool m.safe, .int .i64 m.st, .int .i64 m.rs, .int .i64 m.rr, .int .i64 m.sq, .slice aa m.body.length ca] rfl rfl (Bk.new w6 _ _) rfl rfl rfl ?_; intro w7 hB7 hm7)
      obtain ⟨xb, exb⟩ : ∃ xb, xb = w6.heap.size := ⟨_, rfl⟩
      rw [← exb] at hB7 ⊢
      have hM67 : Mod (fun _ => False) w6 w7 := ((Mod.refl (fun _ => False) w6).alloc _).trans hm7 (V := fun _ => False) (fun _ _ h => h) (fun i hi e => by omega)
      have HN2 := dNext_cons (HD6.out.keep hM67)
      unfold mvl at HN2
      have HB7 : Hid (Bk w7 xb 43 #[.int .i64 m.kind, .int .i64 m.origin, .int .i64 m.life, .int .i64 m.id, .int .i64 m.part, .int .i64 m.parts, .int .i64 m.groups, .bool m.safe, .int .i64 m.st, .int .i64 m.rs, .int .i64 m.rr, .int .i64 m.sq, .slice aa m.body.length ca]) := hB7
      have HM7 : Hid (Mod (fun _ => False) w6 w7 ∧ w6.heap.size ≤ xb) := ⟨hM67, by omega⟩
      clear hB7 hm7 hM67 exb
      go_wp2_with (fail)
      refine HN2.mono ?_
      rintro e w8 ⟨vb, rfl, hob, hgb, hrb, -, hD8, hm8⟩
      obtain ⟨ab, cb, rfl⟩ := hob.shape
      have hs := HS.out
      have hy2 := HY2.out
      have hm6s := HM6.out.2
      have HM8 : Hid (Mod (fun i => Y2 i) w6 w8) := HM7.out.1.none.trans hm8 (V := Y2) (fun _ _ h => h) (fun _ _ h => h)
      have HB8 : Hid (Bk w8 xb 43 #[.int .i64 m.kind, .int .i64 m.origin, .int .i64 m.life, .int .i64 m.id, .int .i64 m.part, .int .i64 m.parts, .int .i64 m.groups, .bool m.safe, .int .i64 m.st, .int .i64 m.rs, .int .i64 m.rr, .int .i64 m.sq, .slice aa m.body.length ca]) := HB7.out.mod hm8 (fun hx => by have := (hy2 xb).1 hx; have := HM7.out.2; omega)
      have HOA : Hid (Own w8 (.slice aa m.body.length ca) m.body) := HO6.out.1.mod HM8.out (fun g hg hx => by have := (hy2 g).1 hx; have := HO6.out.2.1 g hg; omega)
      have HOB : Hid (Own w8 (.slice ab m.body.length cb) m.body) := hob
      have HD8 : Hid (Dr w8 r2 Y2 l) := hD8
      have HR8 : Hid (Rg w8 r Y1 l) := HR6.out.mod HM8.out (fun i hi hx => by have := (HY1.out i).1 hi; have := (hy2 i).1 hx; omega)
      have HMW : Hid (Mod (fun _ => False) w w8 ∧ wo.heap.size ≤ w8.heap.size) := ⟨HM6.out.1.trans HM8.out (V := fun _ => False) (fun _ _ h => h) (fun i hi hx => by have := (hy2 i).1 hx; have := HX4.out; have := HB.out.2.2.2; omega), Nat.le_trans hm6s HM8.out.size⟩
      clear HN2 hob hgb hrb hD8 hm8 hs hy2 hm6s HB7 HM7 HR6 HD6
      go_upto_region 9 with (refine wpList_store_row infoM rfl rfl _ _ rfl w8.heap.size #[.int .i64 m.kind, .int .i64 m.origin, .int .i64 m.life, .int .i64 m.id, .int .i64 m.part, .int .i64 m.parts, .int .i64 m.groups, .bool m.safe, .int .i64 m.st, .int .i64 m.rs, .int .i64 m.rr, .int .i64 m.sq, .slice ab m.body.length cb] rfl rfl (Bk.new w8 _ _) rfl rfl rfl ?_; intro w9 hB9 hm9)
      obtain ⟨yb, eyb⟩ : ∃ yb, yb = w8.heap.size := ⟨_, rfl⟩
      rw [← eyb] at hB9 ⊢
      have hM89 : Mod (fun _ => False) w8 w9 := ((Mod.refl (fun _ => False) w8).alloc _).trans hm9 (V := fun _ => False) (fun _ _ h => h) (fun i hi e => by omega)
      have hBx := HB8.out.mod hM89 (fun h => h)
      have HSM := same_m m (.slice aa m.body.length ca) (.slice ab m.body.length cb) w9 ((HOA.out.mod hM89 (fun _ _ h => h)).sl HO6.out.2.2) ((HOB.out.mod hM89 (fun _ _ h => h)).sl HO6.out.2.2)
      unfold mvl at HSM
      have HBX : Hid (Bk w9 xb 43 #[.int .i64 m.kind, .int .i64 m.origin, .int .i64 m.life, .int .i64 m.id, .int .i64 m.part, .int .i64 m.parts, .int .i64 m.groups, .bool m.safe, .int .i64 m.st, .int .i64 m.rs, .int .i64 m.rr, .int .i64 m.sq, .slice aa m.body.length ca]) := hBx
      have HM9 : Hid (Mod (fun _ => False) w8 w9) := hM89
      clear hm9 hM89 eyb HB8
      go_wp2_with (first
        | (refine wpList_load_rowg infoM Tryz.underlying43 rfl rfl _ rfl xb rfl hBx rfl ?_; simp only [Act.put, List.setIfInBounds_toArray, List.set_cons_succ, List.set_cons_zero])
        | (refine wpList_load_rowg infoM Tryz.underlying43 rfl rfl _ rfl yb rfl hB9 rfl ?_; simp only [Act.put, List.setIfInBounds_toArray, List.set_cons_succ, List.set_cons_zero]))
      refine HSM.mono ?_
      rintro e wa ⟨rfl, hma⟩
      have HMa : Hid (Mod (fun _ => False) w8 wa) := HM9.out.and hma
      have HBa : Hid (Bk wa xb 43 #[.int .i64 m.kind, .int .i64 m.origin, .int .i64 m.life, .int .i64 m.id, .int .i64 m.part, .int .i64 m.parts, .int .i64 m.groups, .bool m.safe, .int .i64 m.st, .int .i64 m.rs, .int .i64 m.rr, .int .i64 m.sq, .slice aa m.body.length ca]) := HBX.out.mod hma (fun h => h)
      have HL1 := Left_r (HR8.out.keep HMa.out)
      have HL2 := dLeft_r (HD8.out.keep HMa.out)
      clear HSM hma hBx hB9 HM9 HBX
      go_wp2_with (first
        | (go_at_call 9; refine HL1.mono ?_; rintro e w' ⟨rfl, e1⟩; replace e1 := e1.symm; subst e1)
        | (go_at_call 10; refine HL2.mono ?_; rintro e w' ⟨rfl, e1⟩; replace e1 := e1.symm; subst e1))
      have hoa := HOA.out.mod HMa.out (fun _ _ h => h)
      have HSX : Hid (Sx wa wa (fun i => (Value.slice aa m.body.length ca).ownBlock = some i) xb #[.int .i64 m.kind, .int .i64 m.origin, .int .i64 m.life, .int .i64 m.id, .int .i64 m.part, .int .i64 m.parts, .int .i64 m.groups, .bool m.safe, .int .i64 m.st, .int .i64 m.rs, .int .i64 m.rr, .int .i64 m.sq, .slice aa m.body.length ca] aa m.body.length) := ⟨Mod.refl _ _, fun hp => by
        obtain ⟨g, c, e, _⟩ := hoa.form hp
        cases e
        exact ⟨g, rfl, hoa.by rfl, rfl⟩, HBa.out⟩
      have HNL : Hid (m.body.length ≤ 9223372036854775807) := by
        rcases hoa.2 with ⟨e, h0⟩ | ⟨g, c, cur, e, _, _, hn, hcm, _⟩
        · show m.body.length ≤ _; omega
        · simp only [maxLen] at hcm; show m.body.length ≤ _; omega
      have cc12 : wa.cell? ⟨xb, 12, none⟩ = some (.slice aa m.body.length ca) := HBa.out.cellv (j := 12) rfl
      clear hoa HL1 HL2
      go_wp2_with (fail)
      go_loopw [15] (fun c wr' => ∃ j : Nat, c = .int .i64 (j : Int) ∧ j ≤ m.body.length ∧ Hid (Sx wa wr' (fun i => (Value.slice aa m.body.length ca).ownBlock = some i) xb #[.int .i64 m.kind, .int .i64 m.origin, .int .i64 m.life, .int .i64 m.id, .int .i64 m.part, .int .i64 m.parts, .int .i64 m.groups, .bool m.safe, .int .i64 m.st, .int .i64 m.rs, .int .i64 m.rr, .int .i64 m.sq, .slice aa m.body.length ca] aa m.body.length)) (fun c _ => m.body.length - (intOf c).toNat)
      case atStart => exact ⟨0, rfl, Nat.zero_le _, HSX⟩
      case round =>
      clear HSX cc12
      obtain ⟨j, rfl, hj, HSX⟩ := hrel
      obtain ⟨wy, ewy⟩ : ∃ wy, wy = wr := ⟨_, rfl⟩
      subst ewy
      have cc12 : wy.cell? ⟨xb, 12, none⟩ = some (.slice aa m.body.length ca) := HSX.out.bk.cellv (j := 12) rfl
      by_cases hjn : j < m.body.length
      · have hjn' : (j : Int) < (m.body.length : Int) := by go_light; omega
        have hjb : (j : Int) < 9223372036854775807 := by have := HNL.out; go_light; omega
        have hpos : 0 < m.body.length := by go_light; omega
        obtain ⟨g, rfl, hby, -⟩ := HSX.out.by' hpos
        obtain ⟨c, ck, fk⟩ := hby.cell hjn
        have HSet : ∀ x, Hid (Sx wa (wy.drew.setCell ⟨g, j, none⟩ (.int .u8 x)) _ xb _ _ m.body.length) := fun x => HSX.out.set hpos j x
        clear HSX hby hpos
        go_wp2_with (fail)
        go_region
        all_goals go_wp2_with (fail)
        all_goals go_roundw
        all_goals first
          | exact ⟨j + 1, by go_num, hjn, HSet _⟩
          | (simp [intOf]; go_light; omega)
      · have ek : ¬ (j : Int) < (m.body.length : Int) := by go_light; omega
        have HREL : Hid (Rg wy r Y1 l ∧ Dr wy r2 Y2 l ∧ Mod (fun _ => False) w wy ∧ w4.heap.size ≤ wy.heap.size ∧ lftOf wy r < lftOf wo r) := by
          have hy1 := HY1.out
          have hy2 := HY2.out
          have hs := HS.out
          have hx := HX4.out
          have hsb := HB.out.2.2.2
          have hr := (HR8.out.keep HMa.out).mod HSX.out.md (fun i hi e => by have := (hy1 i).1 hi; have := HO6.out.2.1 i e; omega)
          refine ⟨hr, (HD8.out.keep HMa.out).mod HSX.out.md (fun i hi e => by have := (hy2 i).1 hi; have := HO6.out.2.1 i e; omega), (HMW.out.1.and HMa.out).trans HSX.out.md (V := fun _ => False) (fun _ _ h => h) (fun i hi e => by have := HO6.out.2.1 i e; omega), ?_, ?_⟩
          · have h1 := HMW.out.2
            have h2 := HMa.out.size
            have h3 := HSX.out.md.size
            omega
          · rw [hr.lft, HR.out.lft]
            simp
        clear HSX
        go_wp2_with (fail)
        go_roundw
        case rel => exact ⟨l, HREL.out.1, HREL.out.2.1, HREL.out.2.2.1, HREL.out.2.2.2.1⟩
        case measure => exact HREL.out.2.2.2.2
namespace regainSends
open Go.ChangeShapes Go.WideShapes Go.ChangeAt Go.RowKit
set_option maxRecDepth 100000 in
theorem lifted (os : Os) (started : os.Started) (H : Type) (enc : TypeId × Value → H) :
    ReturnsInHanded {} Tryz.checked os 3 .any (Rows.regainSendsSpec.pre6 enc Tryz.prog Tryz.f3 Rows.regainSendsRow.domain false) (Rows.regainSendsSpec.post enc Tryz.prog Tryz.f3 false true false false) := by
  refine returnsInHanded_of_change_sized (C := Tryz.checked) own started (by kernel_rfl) Tryz.func3
    (ChangeSpec.witness6 (enc := enc) (C := Tryz.checked) false ⟨#[], #[.slice none 0 0, .int .i64 0], []⟩ 8 (by kernel_rfl) (by kernel_rfl) (by kernel_rfl) (by kernel_rfl)) ?_
  intro W base args ds gs before hval0 hW hcnd hsz0 _
  have hval : ∀ (j : Nat) t v, Tryz.f3.params[j]? = some t → args[j]? = some v → Value.okWide Tryz.prog W .any base t v := hval0
  have hsz : (DataW.weightsEach Tryz.prog (Tryz.f3.params.toList ++ Rows.regainSendsSpec.plain.varTypes Tryz.prog) (ds ++ gs)).all (· ≤ reachBytes) = true := hsz0
  have hW' := hW
  obtain ⟨p, q, hA0, hV, rfl, hfz, hnd⟩ := hW
  have hA : DataW.TrodAll enc Tryz.prog W 0 (fun _ => true) true Tryz.f3.params.toList args.toList ds p := hA0
  rw [Tryz.params3] at hA hval hsz
  obtain ⟨v0, vs0, d0, ds0, p0, q0, hargs, rfl, rfl, h0, r0⟩ := trodAll_cons hA
  obtain ⟨v1, vs1, d1, ds1, p1, q1, rfl, rfl, rfl, h1, r1⟩ := trodAll_cons r0
  obtain ⟨rfl, rfl, rfl⟩ := trodAll_nil r1
  obtain rfl : args = #[v0, v1] := by cases args; simp_all
  obtain ⟨rfl, rfl⟩ := trodVars_none hV
  have k0 := h0
  have lt0 : ∀ x ∈ p0, x.block < W.heap.size := by obtain ⟨m, hm⟩ := k0; exact DataW.trod_lt m _ _ _ hm
  obtain ⟨B0, hB0⟩ := open_dts h0 (okWide_slice Tryz.underlying22 (hval 0 22 v0 rfl rfl)) (by
    rw [List.all_eq_true] at hsz
    intro n hn
    have := hsz n (DataW.weights_mem_each (t := 22) (j := 0) rfl rfl n hn)
    simpa using this)
  obtain ⟨a1, rfl, rfl, rfl, w1⟩ := open_int Tryz.underlying3 (hval 1 3 v1 rfl rfl) h1
  clear hA0 hval0
  refine (sends_walk v0 a1 B0 W hB0).mono fun e W' ⟨he, hm⟩ => ?_
  subst he
  have bel : Below W.heap.size W W' := hm.below _ (Nat.le_refl _) (fun _ h => h.elim)
  exact ⟨_, rfl, _, _, _, [], _, [], hW', trodAll_mk1 (shut_bool Tryz.underlying4 _), (trodAll_cons_mk (Below.trod laidOut (by kernel_rfl) (of_decide_eq_true (by kernel_rfl)) k0 bel lt0) (trodAll_cons_mk (shut_int Tryz.underlying3 w1) trodAll_mk0)), rfl, bel.frame _, fun h => by cases h⟩

theorem over : Rows.regainSendsRow.holds Tryz.pinned (OpenSpec.ofChange Rows.regainSendsSpec) :=
  OpenClaim.holds_of_wide 3 Tryz.f3 rfl rfl rfl rfl rfl rfl rfl ⟨rfl, rfl, rfl, rfl, rfl⟩ rfl rfl rfl rfl rfl (by kernel_rfl) Tryz.func3 (by kernel_rfl)
    (of_decide_eq_true (by kernel_rfl)) (by unfold Func.isWrapper; first | (rw [if_pos (by decide +kernel)]; kernel_rfl) | (rw [if_neg (by decide +kernel)]; exact ⟨rfl, rfl⟩))
    (fun os started H enc _ => lifted os started H enc)
end regainSends
theorem regainSends_holds : Rows.RegainSendsSaid := regainSends.over
end Go.Proofs.YthiijonmnebjgaaGreat
