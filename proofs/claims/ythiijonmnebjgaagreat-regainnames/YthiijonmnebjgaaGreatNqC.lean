/- The document's window in memory: New, See, High, Get. Conditions: sizes that a slice has. -/
import Derived.Test.YthiijonmnebjgaaGreatNqB
import Derived.OpenShut
import Derived.Test.YthiijonmnebjgaaGreatWi
namespace Go.Proofs.YthiijonmnebjgaaGreat
open Go.RowKit Go.Maps
/-- Numbers from 1 to t that are not there. -/
def fil (J : Int → Option Dt) : Nat → List Int
  | 0 => []
  | t + 1 => if (J ((t : Int) + 1)).isSome = true then fil J t else fil J t ++ [(t : Int) + 1]
theorem fil_all {J : Int → Option Dt} : ∀ t : Nat, (∀ k, 1 ≤ k → k ≤ (t : Int) → (J k).isSome = true) → fil J t = []
  | 0, _ => rfl
  | t + 1, h => by
    rw [fil, if_pos (h _ (by omega) (by omega))]
    exact fil_all t fun k h1 h2 => h k h1 (by omega)
theorem fil_pre {J : Int → Option Dt} (s : Nat) : ∀ t, s ≤ t → fil J s <+: fil J t
  | 0, h => by obtain rfl : s = 0 := by omega
               exact List.prefix_refl _
  | t + 1, h => by
    rcases Nat.lt_or_ge s (t + 1) with h1 | h1
    · have := fil_pre (J := J) s t (by omega)
      rw [fil]
      split
      · exact this
      · exact this.trans (List.prefix_append _ _)
    · obtain rfl : s = t + 1 := by omega
      exact List.prefix_refl _
theorem fil_take {J : Int → Option Dt} {s t m : Nat} (h : s ≤ t) (hl : (fil J s).length = m) : (fil J t).take m = fil J s := by
  obtain ⟨r, hr⟩ := fil_pre (J := J) s t h
  rw [← hr, ← hl, List.take_left']
  rfl
theorem fil_congr {J J' : Int → Option Dt} (h : ∀ k, (J k).isSome = (J' k).isSome) : ∀ t, fil J t = fil J' t
  | 0 => rfl
  | t + 1 => by rw [fil, fil, h, fil_congr h t]
theorem fil_i64 {J : Int → Option Dt} : ∀ t : Nat, ∀ x ∈ fil J t, 1 ≤ x ∧ x ≤ (t : Int)
  | 0 => by simp [fil]
  | t + 1 => fun x hx => by
    rw [fil] at hx
    split at hx
    · have := fil_i64 t x hx; omega
    · rcases List.mem_append.1 hx with hx | hx
      · have := fil_i64 t x hx; omega
      · simp at hx; omega
/-- The numbers above s, rising. -/
structure Ks (J : Int → Option Dt) (s : Int) (zs : List Int) : Prop where
  up : zs.Pairwise (· < ·)
  mem : ∀ x, x ∈ zs ↔ (s < x ∧ (J x).isSome = true)
theorem sorted_eq : ∀ {a b : List Int}, a.Pairwise (· < ·) → b.Pairwise (· < ·) → (∀ x, x ∈ a ↔ x ∈ b) → a = b
  | [], [], _, _, _ => rfl
  | [], y :: r, _, _, h => by have := (h y).2 (by simp); simp at this
  | x :: r, [], _, _, h => by have := (h x).1 (by simp); simp at this
  | x :: r, y :: t, ha, hb, h => by
    rw [List.pairwise_cons] at ha hb
    have e : x = y := by
      rcases List.mem_cons.1 ((h x).1 (by simp)) with e | hx
      · exact e
      · rcases List.mem_cons.1 ((h y).2 (by simp)) with e | hy
        · exact e.symm
        · have := hb.1 x hx; have := ha.1 y hy; omega
    subst e
    have e2 : r = t := sorted_eq ha.2 hb.2 fun z => by
      constructor
      · intro hz
        rcases List.mem_cons.1 ((h z).1 (by simp [hz])) with e | hz'
        · subst e; have := ha.1 z hz; omega
        · exact hz'
      · intro hz
        rcases List.mem_cons.1 ((h z).2 (by simp [hz])) with e | hz'
        · subst e; have := hb.1 z hz; omega
        · exact hz'
    rw [e2]
theorem Ks.uniq {J J' : Int → Option Dt} {s : Int} {a b : List Int} (ha : Ks J s a) (hb : Ks J' s b) (h : ∀ k, (J k).isSome = (J' k).isSome) : a = b := sorted_eq ha.up hb.up fun x => by rw [ha.mem, hb.mem, h]
theorem Ks.sort {J : Int → Option Dt} {s : Int} {zs : List Int} (hn : zs.Nodup) (hm : ∀ x, x ∈ zs ↔ (s < x ∧ (J x).isSome = true)) : Ks J s (zs.mergeSort fun x y => decide (x ≤ y)) := by
  have hp := List.mergeSort_perm zs (fun x y => decide (x ≤ y))
  have hs := List.pairwise_mergeSort (le := fun x y : Int => decide (x ≤ y)) (fun a b c h1 h2 => by simp only [decide_eq_true_eq] at *; omega) (fun a b => by simp only [Bool.or_eq_true, decide_eq_true_eq]; omega) zs
  have hnd : (zs.mergeSort fun x y => decide (x ≤ y)).Nodup := hp.nodup_iff.2 hn
  refine ⟨?_, fun x => by rw [hp.mem_iff, hm]⟩
  have := hs.and hnd
  refine this.imp fun {a b} h => ?_
  have h1 : a ≤ b := by simpa using h.1
  have h2 : a ≠ b := h.2
  omega
/-- Put, of all data. -/
theorem Put_any {w : World} {p : Nat} {X : Nat → Prop} {J : Int → Option Dt} {a h : Int} {n : Nat} (hw : Wn w p X J a h n) (d : Dt) (v : Value) (hs : Sl w v d.m.body) (hb : d.m.body.length ≤ 140737488355328) (hN : n < 1000000000000) :
    Calls Tryz.prog 11 #[.pointer (some ⟨p, 0, none⟩), dv d v] w fun e w' => ∃ X' a', e = .returned (.tuple #[.bool (pF J d), .int .i64 (pE d)]) ∧ Wn w' p X' (pJ J d) a' (pH J h d) (n + 1) ∧ a ≤ a' ∧ Mod X w w' ∧ Gone w X X' := by
  obtain ⟨ao, cap, rfl⟩ := hs.shape
  have more : ∀ w', Wn w' p X J a h n → Wn w' p X J a h (n + 1) := fun w' hw' => by
    obtain ⟨B, V, N, h1, h2, h3, h4, h5⟩ := hw'.mem.blk
    exact ⟨⟨⟨B, V, N, h1, h2, by omega, h4, h5⟩, hw'.mem.px, hw'.mem.lt⟩, hw'.wp⟩
  by_cases ho : okP d = true
  · by_cases hJ : (J d.n).isSome = true
    · refine (Put_there hw d ao cap ho hJ).mono ?_
      rintro e w' ⟨rfl, hm⟩
      refine ⟨X, a, by simp [pF, pE, ho, hJ], ?_, Int.le_refl _, hm.none, fun i hi => .inl hi⟩
      rw [show pJ J d = J by simp [pJ, pF, ho, hJ], show pH J h d = h by simp [pH, pF, ho, hJ]]
      exact more w' (hw.keep hm)
    · have hJ' : (J d.n).isSome = false := by simpa using hJ
      refine (Put_new hw d ao cap hs hb ho hN hJ').mono ?_
      rintro e w' ⟨X', a', rfl, h1, h2, h3, h4⟩
      have hJ2 : J d.n = none := by simpa using hJ
      refine ⟨X', a', by simp [pF, pE, ho, hJ2], ?_, h2, h3, h4⟩
      rw [show pJ J d = upd J d.n (some d) by simp [pJ, pF, ho, hJ2], show pH J h d = max h d.n by simp [pH, pF, ho, hJ2]]
      exact h1
  · have ho' : okP d = false := by simpa using ho
    refine (wPut_bad hw d ao cap ho').mono ?_
    rintro e w' ⟨rfl, hm⟩
    refine ⟨X, a, by simp [pF, pE, ho'], ?_, Int.le_refl _, hm.none, fun i hi => .inl hi⟩
    rw [show pJ J d = J by simp [pJ, pF, ho'], show pH J h d = h by simp [pH, pF, ho']]
    exact more w' (hw.keep hm)
end Go.Proofs.YthiijonmnebjgaaGreat
namespace Go.Proofs.YthiijonmnebjgaaGreat
open Go.RowKit Go.Maps
theorem Bk.cellz {w : World} {b : Nat} {t : TypeId} {u : Value} {r : List Value} (h : Bk w b t (u :: r).toArray) : w.cell? ⟨b, 0, none⟩ = some u := h.cellv (j := 0) (by simp)
theorem wf_i64y {n : Int} (h : (Lit.int .i64 n).wf = true) : -9223372036854775808 ≤ n ∧ n ≤ 9223372036854775807 := by
  have := bounds_i64 h
  omega

theorem keyI {key : Value} {z : Lit} (h : keyOf Tryz.prog 3 key = some z) : ∃ x, key = .int .i64 x ∧ z = kl x ∧ I64 x := by
  obtain ⟨x, rfl, rfl, hwf⟩ := Maps.keyOf_int_inv Tryz.underlying3 h
  refine ⟨x, rfl, rfl, ?_⟩
  have := wf_i64y hwf
  unfold I64
  omega
/-- The numbers met so far. -/
def Met' (D : DataW Value) (left : Lit → Bool) (s : Int) (zs : List Int) : Prop := zs.Nodup ∧ ∀ x, x ∈ zs ↔ (s < x ∧ I64 x ∧ Maps.has D (kl x) = true ∧ left (kl x) = false)
theorem Met'.start (D : DataW Value) (s : Int) : Met' D (Maps.has D) s [] := ⟨List.nodup_nil, fun x => by cases Maps.has D (kl x) <;> simp⟩
theorem Met'.step {D : DataW Value} {left : Lit → Bool} {s : Int} {zs : List Int} (h : Met' D left s zs) {x : Int} {y : DataW Value} (hx : I64 x) (hlk : left (kl x) = true) (hat : ∀ zd, D.atKey (kl x) zd = y) (hs : s < x) : Met' D (fun z => left z && !z.sameKey (kl x)) s (zs ++ [x]) := by
  have hhas : Maps.has D (kl x) = true := has_true_of_atKey hat
  have hnew : x ∉ zs := fun hx => by have := ((h.2 x).1 hx).2.2.2; rw [hlk] at this; cases this
  refine ⟨List.nodup_append.2 ⟨h.1, by simp, fun a ha b hb => by simp at hb; subst hb; exact fun e => hnew (e ▸ ha)⟩, fun y => ?_⟩
  by_cases hy : y = x
  · subst hy
    rw [show Maps.has D (kl y) = true from hhas]
    simp [Lit.sameKey, kl, hs, hx]
  · simp [h.2 y, hy, Lit.sameKey, kl]
theorem Met'.skip {D : DataW Value} {left : Lit → Bool} {s : Int} {zs : List Int} (h : Met' D left s zs) {x : Int} (hs : ¬ s < x) : Met' D (fun z => left z && !z.sameKey (kl x)) s zs := by
  refine ⟨h.1, fun y => ?_⟩
  rw [h.2 y]
  by_cases hy : y = x
  · subst hy; simp [hs]
  · simp [hy, Lit.sameKey, kl]
theorem ranges_mod {S : Nat → Prop} {w w' : World} {B r N : Nat} {D : DataW Value} {left : Lit → Bool} {cnt : Nat} (h : w.ranges Tryz.prog 3 hE B r N D left cnt) (hm : Mod S w w') (hB : ¬ S B) (hr : ¬ S r) : w'.ranges Tryz.prog 3 hE B r N D left cnt := by
  obtain ⟨es, clock, since, seen, c0, hb, F, hs, hD, hi, rest⟩ := h
  exact ⟨es, clock, since, seen, c0, hm.obj hb hB, F, hs, hD, hm.obj hi hr, rest⟩
theorem row_ne_iterI {w : World} {v : Value} {l : List Int} {B r N : Nat} {D : DataW Value} {left : Lit → Bool} {cnt : Nat} (h : Cr.Own w v l) (hr : w.ranges Tryz.prog 3 hE B r N D left cnt) : v.ownBlock ≠ some r ∧ v.ownBlock ≠ some B := by
  obtain ⟨es, clock, since, seen, c0, hb, _, _, _, hi, _⟩ := hr
  constructor
  · intro e
    obtain ⟨cur, hc⟩ := h.kind e
    rw [hc] at hi
    cases hi
  · intro e
    obtain ⟨cur, hc⟩ := h.kind e
    rw [hc] at hb
    cases hb
set_option maxRecDepth 100000 in
set_option maxHeartbeats 2000000 in
theorem nums_w {w : World} {p : Nat} {X : Nat → Prop} {J : Int → Option Dt} {a h : Int} {n : Nat} (hw : Wm w p X J a h n) (hn : n ≤ 1000000) (s : Int) : Calls Tryz.prog 49 #[.pointer (some ⟨p, 0, none⟩), .int .i64 s] w fun e w' => ∃ v zs, e = .returned v ∧ Cr.Own w' v zs ∧ Ks J s zs ∧ zs.length ≤ n ∧ Mod (fun _ => False) w w' ∧ (∀ g, v.ownBlock = some g → w.heap.size ≤ g) := by
  obtain ⟨B, V, N, h1, h2, h3, _, _⟩ := hw.blk
  have c0 : w.cell? ⟨p, 0, none⟩ = some (.map (some B)) := h1.cellv (j := 0) rfl
  obtain ⟨D, hown, hsz, hD⟩ := h2.own
  have HD : Hid (∀ x, (I64 x ∧ Maps.has D (kl x) = true) ↔ (J x).isSome = true) := fun x => ⟨fun hx => by rw [← (hD x hx.1).2]; exact hx.2, fun hx => ⟨h2.i64 x hx, by rw [(hD x (h2.i64 x hx)).2]; exact hx⟩⟩
  have HSZ : Hid (Maps.size D = N) := hsz
  have HLT : Hid (B < w.heap.size) := hown.lt
  clear h1 h2 hD hw hsz
  go_enter Tryz.func49, Tryz.ntmps49
  go_wp2_with (first | (at_range; refine wpList_range_own _ rfl _ 73 rfl 3 45 lawI Tryz.underlying73 _ B N D rfl hown ?_; intro w0 hrg0 hg0 hs0) | go_in)
  go_frame
  have HM0 : Hid (Mod (fun _ => False) w w0) := (Mod.refl _ w).grown hg0 (fun k hk => by cases hk)
  clear hg0 hs0 hown
  go_loopw [5] (fun v wr => ∃ (left : Lit → Bool) (cnt : Nat) (zs : List Int), wr.ranges Tryz.prog 3 hE B w.heap.size N D left cnt ∧ Hid (zs.length + cnt ≤ N) ∧ Cr.Own wr v zs ∧ Hid (Met' D left s zs) ∧ Hid (∀ g, v.ownBlock = some g → w.heap.size ≤ g) ∧ Mod (fun _ => False) w wr) (fun _ wr => wr.rangeLeft B w.heap.size)
  case atStart => exact ⟨_, _, [], hrg0, by show _ ≤ _; rw [HSZ.out]; simp, Cr.Own.nil _, Met'.start D s, by intro g hg; simp [Value.ownBlock] at hg, HM0.out⟩
  case round =>
    clear hrg0
    obtain ⟨left, cnt, zs, hrg, hcs, hown, hC, hnew, hMr⟩ := hrel
    go_wp2_with (first | (at_next; refine wpList_next_ranges _ rfl _ rfl 3 lawI hE (Value.int .i64) (fun c : Value => c) (fun key z hk => by obtain ⟨x, hx, _⟩ := keyI hk; exact ⟨x, hx⟩) (fun v y hv => ⟨v, rfl⟩) B w.heap.size N _ _ _ rfl hrg ?_ ?_) | go_in)
    · intro hc0 hl0
      have HKS : Hid (Ks J s (zs.mergeSort fun x y => decide (x ≤ y))) := Ks.sort hC.out.1 fun x => by
        rw [hC.out.2 x, hl0]
        have := HD.out x
        constructor
        · rintro ⟨q1, q2, q3, _⟩
          exact ⟨q1, this.1 ⟨q2, q3⟩⟩
        · rintro ⟨q1, q2⟩
          exact ⟨q1, (this.2 q2).1, (this.2 q2).2, rfl⟩
      have HS := sort_own _ zs wr hown (by have := hcs.out; omega)
      have HLN : Hid ((zs.mergeSort fun x y => decide (x ≤ y)).length ≤ n) := by show _ ≤ _; rw [List.length_mergeSort]; have := hcs.out; omega
      clear hl0 hc0
      go_wp2_with (go_at_call 62; refine HS.mono ?_; rintro e w5 ⟨rfl, ho5, hm5⟩)
      go_ret
      exact ⟨_, _, rfl, ho5, HKS.out, HLN.out, hMr.trans hm5 (fun _ _ h => h) (fun g hg e => by have := hnew.out g e; omega), hnew.out⟩
    · intro x c kz yd yp w2 cnt2 hkey hlk hv hat hrg2 hlt hg2 hs2 hen
      obtain ⟨x', ex, rfl, hx⟩ := keyI hkey
      cases ex
      have hm2 : Mod (fun k => k = w.heap.size) wr w2 := (Mod.refl _ wr).grown hg2 (fun k hk _ => by cases hk; rfl)
      have hM2 : Mod (fun _ => False) w w2 := hMr.trans hm2 (fun _ _ h => h) (fun k hk e => by omega)
      have ho2 := hown.mod hm2 (fun g hg e => (row_ne_iterI hown hrg).1 (e ▸ hg))
      have HLT2 : Hid (cnt2 < cnt) := hlt
      have HRG : Hid (wr.ranges Tryz.prog 3 hE B w.heap.size N D left cnt) := hrg
      have HRG2 : Hid (w2.ranges Tryz.prog 3 hE B w.heap.size N D (fun z => left z && !z.sameKey (kl x)) cnt2) := hrg2
      by_cases hsx : s < x
      · have HC2 : Hid (Met' D (fun z => left z && !z.sameKey (kl x)) s (zs ++ [x])) := hC.out.step hx hlk hat hsx
        have HLZ : Hid (zs.length + 1 ≤ 1000000000000) := by show _ ≤ _; have := hcs.out; omega
        clear hkey hlk hv hat hrg2 hlt hg2 hs2 hm2 hMr hown hC hrg
        go_wp2_with (first | (at_builtin; refine wpList_app1 rfl _ _ rfl _ zs x w2.heap.size rfl rfl (ho2.mod ((Mod.refl (fun _ => False) w2).alloc _) (fun _ _ h => h)) (Bk.new w2 #[.int .i64 x] 3).cellz HLZ.out ?_; intro v4 w4 ho4 hm4 hf4) | go_in)
        have hA2 := (Mod.refl (fun _ => False) w2).alloc (.cells #[.int .i64 x] 3)
        have HR4 : Hid (w4.ranges Tryz.prog 3 hE B w.heap.size N D (fun z => left z && !z.sameKey (kl x)) cnt2) := ranges_mod (ranges_mod HRG2.out hA2 (fun h => h) (fun h => h)) hm4 (row_ne_iterI ho2 HRG2.out).2 (row_ne_iterI ho2 HRG2.out).1
        have HN4 : Hid (∀ g, v4.ownBlock = some g → w.heap.size ≤ g) := fun g hg => by
          rcases hf4 g hg with h1 | h1
          · exact hnew.out g h1
          · have := hM2.size; simp at h1; omega
        have HM4 : Hid (Mod (fun _ => False) w w4) := (hM2.alloc _).trans hm4 (fun _ _ h => h) (fun g hg e => by have := hnew.out g e; omega)
        have HLn : Hid ((zs ++ [x]).length + cnt2 ≤ N) := by show _ ≤ _; simp; have := hcs.out; have := HLT2.out; omega
        clear hf4 hm4 hA2
        go_roundw
        case rel => exact ⟨_, _, _, HR4.out, HLn, ho4, HC2, HN4, HM4.out⟩
        case measure => rw [HR4.out.left_eq, HRG.out.left_eq]; exact HLT2.out
      · have HC2 : Hid (Met' D (fun z => left z && !z.sameKey (kl x)) s zs) := hC.out.skip hsx
        have HLn : Hid (zs.length + cnt2 ≤ N) := by show _ ≤ _; have := hcs.out; have := HLT2.out; omega
        clear hkey hlk hv hat hrg2 hlt hg2 hs2 hm2 hMr hown hC hrg
        go_wp2
        go_roundw
        case rel => exact ⟨_, _, _, HRG2.out, HLn, ho2, HC2, hnew, hM2⟩
        case measure => rw [HRG2.out.left_eq, HRG.out.left_eq]; exact HLT2.out
end Go.Proofs.YthiijonmnebjgaaGreat
namespace Go.Proofs.YthiijonmnebjgaaGreat
open Go.RowKit Go.Maps
/-- The cells of data, one behind the other. -/
def fd : List (Dt × Value) → List Value
  | [] => []
  | d :: r => dcl d.1 d.2 ++ fd r
theorem fd_len : ∀ ds, (fd ds).length = ds.length * 18
  | [] => rfl
  | d :: r => by rw [fd, List.length_append, fd_len r, dcl_len, List.length_cons]; omega
theorem fd_app : ∀ a b, fd (a ++ b) = fd a ++ fd b
  | [], _ => rfl
  | d :: r, b => by rw [List.cons_append, fd, fd, fd_app r b, List.append_assoc]
theorem dcl_lt {d : Dt} {v c : Value} {t : Nat} (h : (dcl d v)[t]? = some c) : t < 18 := by
  rcases Nat.lt_or_ge t 18 with h' | h'
  · exact h'
  · rw [List.getElem?_eq_none (by exact h')] at h; cases h
theorem fd_get : ∀ (ds : List (Dt × Value)) (i : Nat) (d : Dt × Value), ds[i]? = some d → ∀ t c, (dcl d.1 d.2)[t]? = some c → (fd ds)[i * 18 + t]? = some c
  | [], i, d, h => by simp at h
  | x :: r, 0, d, h => fun t c hc => by
    simp at h
    subst h
    rw [fd, List.getElem?_append_left (by have := dcl_lt hc; rw [dcl_len]; omega)]
    simpa using hc
  | x :: r, i + 1, d, h => fun t c hc => by
    rw [fd, List.getElem?_append_right (by rw [dcl_len]; omega), dcl_len, show (i + 1) * 18 + t - 18 = i * 18 + t by omega]
    exact fd_get r i d (by simpa using h) t c hc
theorem dcl_one (d : Dt) (ao : Option Addr) (n cap : Nat) : ∀ c ∈ dcl d (.slice ao n cap), c.oneCell' = true := fun c hc => by
  simp only [dcl, List.mem_cons, List.not_mem_nil, or_false] at hc
  rcases hc with rfl | rfl | rfl | rfl | rfl | rfl | rfl | rfl | rfl | rfl | rfl | rfl | rfl | rfl | rfl | rfl | rfl | rfl
  all_goals rfl
theorem infoDq : (Tryz.prog.info? 45).map (fun i => (i.zero, i.size, i.bytes)) = some (some (.agg #[.int .i64 0, .int .i64 0, .int .i64 0, .int .i64 0, .int .i64 0, .int .i64 0, .int .i64 0, .int .i64 0, .int .i64 0, .int .i64 0, .int .i64 0, .int .i64 0, .bool false, .int .i64 0, .int .i64 0, .int .i64 0, .int .i64 0, .slice none 0 0]), 18, 160) := by kernel_rfl
theorem elD : El 22 45 18 160 := ⟨Tryz.underlying22, by
  have h := infoDq
  cases hi : Tryz.prog.info? 45 with
  | none => rw [hi] at h; cases h
  | some i =>
    rw [hi] at h
    simp only [Option.map_some, Option.some.injEq, Prod.mk.injEq] at h
    exact ⟨i, _, rfl, h.1, h.2.1, h.2.2, rfl⟩⟩
/-- A row of data of the call's own, each with a body of the call's own, all new since b. -/
structure Rd18 (w : World) (b : Nat) (v : Value) (ds : List (Dt × Value)) : Prop where
  row : RG w 45 18 v ds.length (fd ds)
  new : ∀ g, v.ownBlock = some g → b ≤ g
  each : ∀ x ∈ ds, Own w x.2 x.1.m.body ∧ (∀ g, x.2.ownBlock = some g → b ≤ g) ∧ (∀ c ∈ x.1.m.body, 0 ≤ c ∧ c ≤ 255)
theorem Rd18.nil (w : World) (b : Nat) : Rd18 w b (.slice none 0 0) [] := ⟨RG.nil w _ _, by simp [Value.ownBlock], by simp⟩
theorem Rd18.mod {S : Nat → Prop} {w w' : World} {b : Nat} {v : Value} {ds : List (Dt × Value)} (h : Rd18 w b v ds) (hm : Mod S w w') (hS : ∀ g, b ≤ g → ¬ S g) : Rd18 w' b v ds :=
  ⟨h.row.mod hm (fun g hg => hS g (h.new g hg)), h.new, fun x hx => ⟨(h.each x hx).1.mod hm (fun g hg => hS g ((h.each x hx).2.1 g hg)), (h.each x hx).2⟩⟩
theorem Rd18.keep {w w' : World} {b : Nat} {v : Value} {ds : List (Dt × Value)} (h : Rd18 w b v ds) (hm : Mod (fun _ => False) w w') : Rd18 w' b v ds := h.mod hm (fun _ _ h => h)
theorem Rd18.base {w : World} {b b' : Nat} {v : Value} {ds : List (Dt × Value)} (h : Rd18 w b v ds) (hb : b' ≤ b) : Rd18 w b' v ds := ⟨h.row, fun g hg => Nat.le_trans hb (h.new g hg), fun x hx => ⟨(h.each x hx).1, fun g hg => Nat.le_trans hb ((h.each x hx).2.1 g hg), (h.each x hx).2.2⟩⟩
/-- One more. -/
theorem Rd18.more {w w' : World} {b : Nat} {v v' u : Value} {ds : List (Dt × Value)} {d : Dt} (h : Rd18 w b v ds) (hm : Mod (fun k => v.ownBlock = some k) w w') (hr : RG w' 45 18 v' (ds.length + 1) (fd ds ++ dcl d u)) (hf : Fr w v v') (hb : b ≤ w.heap.size) (ho : Own w u d.m.body) (hu : ∀ g, u.ownBlock = some g → b ≤ g) (hc : ∀ c ∈ d.m.body, 0 ≤ c ∧ c ≤ 255) : Rd18 w' b v' (ds ++ [(d, u)]) := by
  have ne : ∀ x l, Own w x l → ∀ g, x.ownBlock = some g → ¬ v.ownBlock = some g := fun x l hx g hg e => by
    obtain ⟨c1, k1⟩ := h.row.kind e
    obtain ⟨c2, k2⟩ := hx.kind hg
    rw [k1] at k2
    simp at k2
  refine ⟨?_, fun g hg => ?_, fun x hx => ?_⟩
  · rw [List.length_append, fd_app, show fd [(d, u)] = dcl d u by simp [fd]]
    exact hr
  · rcases hf g hg with h1 | h1
    · exact h.new g h1
    · omega
  · rcases List.mem_append.1 hx with hx | hx
    · obtain ⟨a1, a2, a3⟩ := h.each x hx
      exact ⟨a1.mod hm (ne _ _ a1), a2, a3⟩
    · simp at hx
      subst hx
      exact ⟨ho.mod hm (ne _ _ ho), hu, hc⟩
set_option maxRecDepth 100000 in
set_option maxHeartbeats 4000000 in
theorem Above_w {w : World} {p : Nat} {X : Nat → Prop} {J : Int → Option Dt} {a h : Int} {n : Nat} (hw : Wn w p X J a h n) (hn : n ≤ 1000000) (s : Int) : Calls Tryz.prog 32 #[.pointer (some ⟨p, 0, none⟩), .int .i64 s] w fun e w' => ∃ v ds zs, e = .returned v ∧ Rd18 w' w.heap.size v ds ∧ Ks J s zs ∧ ds.map (·.1) = zs.map (fun k => (J k).getD d0) ∧ zs.length ≤ n ∧ Mod (fun _ => False) w w' := by
  have HW : Hid (Wn w p X J a h n) := hw
  obtain ⟨B, V, N, h1, _, _, _, _⟩ := hw.mem.blk
  have HN := isNone_w (h1.cellv (j := 0) rfl)
  have HNU := nums_w hw.mem hn s
  clear h1 hw
  go_enter Tryz.func32, Tryz.ntmps32
  go_wp2_with (first | (go_at_call 37; refine HN.mono ?_; rintro e w' ⟨rfl, rfl⟩))
  refine HNU.mono ?_
  rintro e w1 ⟨vz, zs, rfl, hoz, hks, hlz, hm1, hg1⟩
  obtain ⟨az, cz, rfl, hzc, hzm⟩ := hoz.rng
  have HKS : Hid (Ks J s zs) := hks
  have HG1 : Hid (∀ g, (Value.slice az zs.length cz).ownBlock = some g → w'.heap.size ≤ g) := hg1
  have HLZ : Hid (zs.length ≤ n) := hlz
  have HOZ : Hid (Cr.Own w1 (.slice az zs.length cz) zs) := hoz
  have HM1 : Hid (Mod (fun _ => False) w' w1) := hm1
  clear hks hg1 HNU HN hoz hm1 hlz
  go_wp2_with (fail)
  go_loopw [5, 14] (fun v i wr => ∃ (j : Nat) (ds : List (Dt × Value)), i = .int .i64 (j : Int) ∧ j ≤ zs.length ∧ Hid (ds.map (·.1) = (zs.take j).map (fun k => (J k).getD d0)) ∧ Rd18 wr w1.heap.size v ds ∧ Mod (fun _ => False) w1 wr) (fun _ i _ => zs.length - (intOf i).toNat)
  case atStart => exact ⟨0, [], rfl, Nat.zero_le _, by show _ = _; simp, Rd18.nil _ _, Mod.refl _ _⟩
  case round =>
    obtain ⟨j, ds, rfl, hj, hmap, hR, hMr⟩ := hrel
    obtain ⟨av, cv, rfl⟩ := hR.row.shape
    by_cases hlt : j < zs.length
    · have hlt' : (j : Int) < (zs.length : Int) := by omega
      have hlen : ds.length = j := by have := congrArg List.length hmap.out; simpa [Nat.min_eq_left hj] using this
      obtain ⟨x, hx⟩ : ∃ x, zs[j]? = some x := ⟨zs[j], List.getElem?_eq_getElem hlt⟩
      obtain ⟨az', cz', e, _, _, _, hcell⟩ := (HOZ.out.mod hMr (fun _ _ h => h)).sl
      cases e
      obtain ⟨bz, oz, rfl, hc⟩ := hcell (by intro e; rw [e] at hlt; simp at hlt)
      have hcj := hc j hlt
      rw [show zs.getD j 0 = x by simp [List.getD, hx]] at hcj
      obtain ⟨hxs, hxJ⟩ := (HKS.out.mem x).1 (List.mem_of_getElem? hx)
      obtain ⟨d, hd⟩ := Option.isSome_iff_exists.1 hxJ
      have HD : Hid (J x = some d) := hd
      have hWr := (HW.out.keep HM1.out).keep hMr
      obtain ⟨B, V, N, k1, k2, _, _, k5⟩ := hWr.mem.blk
      have c0 : wr.cell? ⟨p, 0, none⟩ = some (.map (some B)) := k1.cellv (j := 0) rfl
      have hL := k2.look (k2.i64 x hxJ)
      obtain ⟨ao, cap, hmv, hown⟩ := mv_at k5 x
      rw [hmv] at hL
      simp only [hd, Option.getD_some] at hL hown
      obtain ⟨-, -, -, hr, hb⟩ := hWr.wp.each x d hd
      have HC := clone_dt d _ wr (hown.sl hr) hb
      have HRNG : Hid (∀ c ∈ d.m.body, 0 ≤ c ∧ c ≤ 255) := hr
      have HX : Hid (zs[j]? = some x) := hx
      have HLEN : Hid (ds.length = j) := hlen
      have HLT : Hid (j < zs.length) := hlt
      clear hc hcell k1 k2 k5 hWr hd hmv hown hr hb hxJ hxs hx hlen
      have hb1 : (0 : Int) ≤ (j : Int) := by omega
      have hjb : (j : Int) + 1 ≤ 1000000 := by have := HLZ.out; omega
      go_wp2_with (fail)
      refine HC.mono ?_
      rintro e w2 ⟨v2, rfl, ho2, hm2, hg2⟩
      obtain ⟨a2, c2, rfl⟩ := ho2.shape
      have hA := (Mod.refl (fun _ => False) w2).alloc (.cells (dcl d (.slice a2 d.m.body.length c2)).toArray 45)
      have hR2 := (hR.keep hm2).keep hA
      have hSG := SG.lit w2 45 (dcl d (.slice a2 d.m.body.length c2)) (dcl_one d a2 _ c2)
      have hoA := ho2.mod hA (fun _ _ h => h)
      have hMA := (hMr.and hm2).and hA
      have HSZ : Hid (wr.heap.size ≤ w2.heap.size) := hm2.size
      have HSZ0 : Hid (w1.heap.size ≤ wr.heap.size) := hMr.size
      have HBND : Hid ((ds.length + 1) * 160 ≤ 140737488355328 ∧ ds.length + 1 ≤ 9223372036854775807) := by
        have := HLEN.out; have := HLZ.out
        constructor <;> omega
      have HG2 : Hid (∀ g, (Value.slice a2 d.m.body.length c2).ownBlock = some g → wr.heap.size ≤ g) := hg2
      clear HC hL c0 hcj ho2 hg2 hm2 hR hMr hA
      unfold dv
      unfold dcl at hSG
      go_wp2_with (at_builtin; refine wpList_appG elD rfl _ _ rfl _ _ ds.length 1 (fd ds) _ rfl rfl hR2.row hSG HBND.out.1 HBND.out.2 (ds.length + 1) rfl ?_; intro ax cx w4 hRG4 hm4 hf4)
      have HR4 := hR2.more hm4 hRG4 hf4 (by have := HSZ.out; have := HSZ0.out; simp; omega) hoA (fun g hg => Nat.le_trans HSZ0.out (HG2.out g hg)) HRNG.out
      have HM4 : Hid (Mod (fun _ => False) w1 w4) := hMA.trans hm4 (fun _ _ h => h) (fun g hg e => by have := hR2.new g e; omega)
      have HMAP : Hid ((ds ++ [(d, Value.slice a2 d.m.body.length c2)]).map (·.1) = (zs.take (j + 1)).map (fun k => (J k).getD d0)) := by
        show _ = _
        rw [List.map_append, hmap.out, List.take_add_one, HX.out, List.map_append]
        simp [HD.out]
      have HR5 : Hid (Rd18 w4 _ _ _) := HR4
      clear HR4 hm4 hf4 hRG4 hMA hR2 hoA hSG
      go_roundw
      case rel => exact ⟨j + 1, _, by go_num, HLT.out, HMAP, HR5.out, HM4.out⟩
      case measure =>
        have := HLT.out
        simp [intOf]
        omega
    · have e : j = zs.length := by omega
      have HE : Hid (j = zs.length) := e
      clear e
      go_wp2
      go_ret
      exact ⟨_, ds, zs, rfl, hR.base HM1.out.size, HKS.out, by rw [hmap.out, HE.out, List.take_length], HLZ.out, HM1.out.and hMr⟩
end Go.Proofs.YthiijonmnebjgaaGreat
namespace Go.Proofs.YthiijonmnebjgaaGreat
open Go.RowKit
theorem wpList_store_part {ops : Array Oper} {rest : List Oper} {op : Oper} {a : Act} {w : World} {Q : Exit → Act → World → Prop} {t : TypeId} {n : Nat} (hi : (Tryz.prog.info? t).map (·.size) = some n) (hgd : op.guard = none) (hdt : op.dst = none) (x y : Operand) (ho : op.op = .store t x y)
    (b o : Nat) (cells : Array Value) (hx : a.eval x = .pointer (some ⟨b, o, none⟩)) (hy : a.eval y = .agg cells) {t' : TypeId} {xs : Array Value} (hB : Bk w b t' xs) (hxs : o + n ≤ xs.size) (hcs : cells.size = n) (h1 : cells.toList.all (·.oneCell') = true)
    (ys : Array Value) (hys : sets' xs o cells.toList = ys)
    (h : ∀ w', Bk w' b t' ys → Mod (fun k => k = b) w w' → wpList Tryz.prog ops Q rest a w') : wpList Tryz.prog ops Q (op :: rest) a w :=
  wpList_store_mid (P := Tryz.prog) hgd t x y ho b o cells hx hy (hB.there (by omega)) (by rw [hi, hcs]) (by rw [← Array.all_toList]; exact h1) (by rw [hdt]; exact h _ (by rw [← hys]; exact hB.stores cells.toList o) (setCells_mod b cells.toList o w))
theorem wpList_load_rowg {ops : Array Oper} {rest : List Oper} {op : Oper} {a : Act} {w : World} {Q : Exit → Act → World → Prop} {t : TypeId} {n : Nat} {d : TypeDesc} (hi : (Tryz.prog.info? t).map (·.size) = some n) (hu : Tryz.prog.underlying t = some d) (hd : d.isRow = true) (hw : Region.wanted op (yielded ops a.tmps) = true) (x : Operand) (ho : op.op = .load t x)
    (b : Nat) (hx : a.eval x = .pointer (some ⟨b, 0, none⟩)) {t' : TypeId} {xs : Array Value} (hB : Bk w b t' xs) (hxs : xs.size = n)
    (h : wpList Tryz.prog ops Q rest (a.put op.dst (.agg xs)) w) : wpList Tryz.prog ops Q (op :: rest) a w := by
  refine wpList_step fun K hK => ?_
  rw [if_pos hw]
  refine wp_load_mid (P := Tryz.prog) t x ho b 0 hx xs.toList d hB.row hu hd (by rw [hi]; simp [hxs]) (hK _ _ ?_)
  simpa using h
theorem sets5 (x0 x1 x2 x3 x4 x5 x6 x7 x8 x9 x10 x11 x12 x13 x14 x15 x16 x17 y0 y1 y2 y3 y4 y5 y6 y7 y8 y9 y10 y11 y12 : Value) : sets' #[x0, x1, x2, x3, x4, x5, x6, x7, x8, x9, x10, x11, x12, x13, x14, x15, x16, x17] 5 (#[y0, y1, y2, y3, y4, y5, y6, y7, y8, y9, y10, y11, y12] : Array Value).toList = #[x0, x1, x2, x3, x4, y0, y1, y2, y3, y4, y5, y6, y7, y8, y9, y10, y11, y12] := by
  simp only [sets', List.setIfInBounds_toArray, List.set_cons_succ, List.set_cons_zero]
/-- A message stored into data. -/
theorem wpList_store_msg {ops : Array Oper} {rest : List Oper} {op : Oper} {a : Act} {w : World} {Q : Exit → Act → World → Prop} {t t' : TypeId} (hi : (Tryz.prog.info? t).map (·.size) = some 13) (hgd : op.guard = none) (hdt : op.dst = none) (x y : Operand) (ho : op.op = .store t x y)
    (b : Nat) (x0 x1 x2 x3 x4 x5 x6 x7 x8 x9 x10 x11 x12 x13 x14 x15 x16 x17 y0 y1 y2 y3 y4 y5 y6 y7 y8 y9 y10 y11 y12 : Value) (hx : a.eval x = .pointer (some ⟨b, 5, none⟩)) (hy : a.eval y = .agg #[y0, y1, y2, y3, y4, y5, y6, y7, y8, y9, y10, y11, y12]) (hB : Bk w b t' #[x0, x1, x2, x3, x4, x5, x6, x7, x8, x9, x10, x11, x12, x13, x14, x15, x16, x17]) (h1 : (#[y0, y1, y2, y3, y4, y5, y6, y7, y8, y9, y10, y11, y12] : Array Value).toList.all (·.oneCell') = true)
    (h : ∀ w', Bk w' b t' #[x0, x1, x2, x3, x4, y0, y1, y2, y3, y4, y5, y6, y7, y8, y9, y10, y11, y12] → Mod (fun k => k = b) w w' → wpList Tryz.prog ops Q rest a w') : wpList Tryz.prog ops Q (op :: rest) a w :=
  wpList_store_part hi hgd hdt x y ho b 5 #[y0, y1, y2, y3, y4, y5, y6, y7, y8, y9, y10, y11, y12] hx hy hB (Nat.le_refl 18) rfl h1 _ (sets5 x0 x1 x2 x3 x4 x5 x6 x7 x8 x9 x10 x11 x12 x13 x14 x15 x16 x17 y0 y1 y2 y3 y4 y5 y6 y7 y8 y9 y10 y11 y12) h
end Go.Proofs.YthiijonmnebjgaaGreat
namespace Go.Proofs.YthiijonmnebjgaaGreat
open Go.RowKit Go.Maps
set_option maxRecDepth 100000 in
set_option maxHeartbeats 4000000 in
theorem copy_dt (d : Dt) (v : Value) (w : World) (hs : Sl w v d.m.body) (hb : d.m.body.length ≤ 140737488355328) :
    Calls Tryz.prog 46 #[dv d v] w fun e w' => ∃ v', e = .returned (dv d v') ∧ Own w' v' d.m.body ∧ Mod (fun _ => False) w w' ∧ (∀ g, v'.ownBlock = some g → w.heap.size ≤ g) := by
  obtain ⟨ao, cap, rfl⟩ := hs.shape
  unfold dv
  have HA1 : Hid (Mod (fun _ => False) w _) := (Mod.refl (fun _ => False) w).alloc (.cells #[.int .i64 d.q, .int .i64 d.r, .int .i64 d.n, .int .i64 d.s, .int .i64 d.t, .int .i64 d.m.kind, .int .i64 d.m.origin, .int .i64 d.m.life, .int .i64 d.m.id, .int .i64 d.m.part, .int .i64 d.m.parts, .int .i64 d.m.groups, .bool d.m.safe, .int .i64 d.m.st, .int .i64 d.m.rs, .int .i64 d.m.rr, .int .i64 d.m.sq, .slice ao d.m.body.length cap] 45)
  have HA2 : Hid (Mod (fun _ => False) (w.alloc (.cells #[.int .i64 d.q, .int .i64 d.r, .int .i64 d.n, .int .i64 d.s, .int .i64 d.t, .int .i64 d.m.kind, .int .i64 d.m.origin, .int .i64 d.m.life, .int .i64 d.m.id, .int .i64 d.m.part, .int .i64 d.m.parts, .int .i64 d.m.groups, .bool d.m.safe, .int .i64 d.m.st, .int .i64 d.m.rs, .int .i64 d.m.rr, .int .i64 d.m.sq, .slice ao d.m.body.length cap] 45)) _) := (Mod.refl (fun _ => False) _).alloc (.cells #[.int .i64 0, .int .i64 0, .int .i64 0, .int .i64 0, .int .i64 0, .int .i64 0, .int .i64 0, .int .i64 0, .int .i64 0, .int .i64 0, .int .i64 0, .int .i64 0, .bool false, .int .i64 0, .int .i64 0, .int .i64 0, .int .i64 0, .slice none 0 0] 45)
  have HA3 : Hid (Mod (fun _ => False) ((w.alloc (.cells #[.int .i64 d.q, .int .i64 d.r, .int .i64 d.n, .int .i64 d.s, .int .i64 d.t, .int .i64 d.m.kind, .int .i64 d.m.origin, .int .i64 d.m.life, .int .i64 d.m.id, .int .i64 d.m.part, .int .i64 d.m.parts, .int .i64 d.m.groups, .bool d.m.safe, .int .i64 d.m.st, .int .i64 d.m.rs, .int .i64 d.m.rr, .int .i64 d.m.sq, .slice ao d.m.body.length cap] 45)).alloc (.cells #[.int .i64 0, .int .i64 0, .int .i64 0, .int .i64 0, .int .i64 0, .int .i64 0, .int .i64 0, .int .i64 0, .int .i64 0, .int .i64 0, .int .i64 0, .int .i64 0, .bool false, .int .i64 0, .int .i64 0, .int .i64 0, .int .i64 0, .slice none 0 0] 45)) _) := (Mod.refl (fun _ => False) _).alloc (.cells #[.int .i64 0, .int .i64 0, .int .i64 0, .int .i64 0, .int .i64 0, .int .i64 0, .int .i64 0, .int .i64 0, .int .i64 0, .int .i64 0, .int .i64 0, .int .i64 0, .bool false, .int .i64 0, .int .i64 0, .int .i64 0, .int .i64 0, .slice none 0 0] 45)
  have H0 : Hid (Bk ((w.alloc (.cells #[.int .i64 d.q, .int .i64 d.r, .int .i64 d.n, .int .i64 d.s, .int .i64 d.t, .int .i64 d.m.kind, .int .i64 d.m.origin, .int .i64 d.m.life, .int .i64 d.m.id, .int .i64 d.m.part, .int .i64 d.m.parts, .int .i64 d.m.groups, .bool d.m.safe, .int .i64 d.m.st, .int .i64 d.m.rs, .int .i64 d.m.rr, .int .i64 d.m.sq, .slice ao d.m.body.length cap] 45)).alloc (.cells #[.int .i64 0, .int .i64 0, .int .i64 0, .int .i64 0, .int .i64 0, .int .i64 0, .int .i64 0, .int .i64 0, .int .i64 0, .int .i64 0, .int .i64 0, .int .i64 0, .bool false, .int .i64 0, .int .i64 0, .int .i64 0, .int .i64 0, .slice none 0 0] 45)) w.heap.size 45 #[.int .i64 d.q, .int .i64 d.r, .int .i64 d.n, .int .i64 d.s, .int .i64 d.t, .int .i64 d.m.kind, .int .i64 d.m.origin, .int .i64 d.m.life, .int .i64 d.m.id, .int .i64 d.m.part, .int .i64 d.m.parts, .int .i64 d.m.groups, .bool d.m.safe, .int .i64 d.m.st, .int .i64 d.m.rs, .int .i64 d.m.rr, .int .i64 d.m.sq, .slice ao d.m.body.length cap]) := (Bk.new w #[.int .i64 d.q, .int .i64 d.r, .int .i64 d.n, .int .i64 d.s, .int .i64 d.t, .int .i64 d.m.kind, .int .i64 d.m.origin, .int .i64 d.m.life, .int .i64 d.m.id, .int .i64 d.m.part, .int .i64 d.m.parts, .int .i64 d.m.groups, .bool d.m.safe, .int .i64 d.m.st, .int .i64 d.m.rs, .int .i64 d.m.rr, .int .i64 d.m.sq, .slice ao d.m.body.length cap] 45).mod HA2.out (fun h => h)
  have H1 : Hid (Bk (((w.alloc (.cells #[.int .i64 d.q, .int .i64 d.r, .int .i64 d.n, .int .i64 d.s, .int .i64 d.t, .int .i64 d.m.kind, .int .i64 d.m.origin, .int .i64 d.m.life, .int .i64 d.m.id, .int .i64 d.m.part, .int .i64 d.m.parts, .int .i64 d.m.groups, .bool d.m.safe, .int .i64 d.m.st, .int .i64 d.m.rs, .int .i64 d.m.rr, .int .i64 d.m.sq, .slice ao d.m.body.length cap] 45)).alloc (.cells #[.int .i64 0, .int .i64 0, .int .i64 0, .int .i64 0, .int .i64 0, .int .i64 0, .int .i64 0, .int .i64 0, .int .i64 0, .int .i64 0, .int .i64 0, .int .i64 0, .bool false, .int .i64 0, .int .i64 0, .int .i64 0, .int .i64 0, .slice none 0 0] 45)).alloc (.cells #[.int .i64 0, .int .i64 0, .int .i64 0, .int .i64 0, .int .i64 0, .int .i64 0, .int .i64 0, .int .i64 0, .int .i64 0, .int .i64 0, .int .i64 0, .int .i64 0, .bool false, .int .i64 0, .int .i64 0, .int .i64 0, .int .i64 0, .slice none 0 0] 45)) (w.heap.size + 1) 45 #[.int .i64 0, .int .i64 0, .int .i64 0, .int .i64 0, .int .i64 0, .int .i64 0, .int .i64 0, .int .i64 0, .int .i64 0, .int .i64 0, .int .i64 0, .int .i64 0, .bool false, .int .i64 0, .int .i64 0, .int .i64 0, .int .i64 0, .slice none 0 0]) := by
    have := (Bk.new (w.alloc (.cells #[.int .i64 d.q, .int .i64 d.r, .int .i64 d.n, .int .i64 d.s, .int .i64 d.t, .int .i64 d.m.kind, .int .i64 d.m.origin, .int .i64 d.m.life, .int .i64 d.m.id, .int .i64 d.m.part, .int .i64 d.m.parts, .int .i64 d.m.groups, .bool d.m.safe, .int .i64 d.m.st, .int .i64 d.m.rs, .int .i64 d.m.rr, .int .i64 d.m.sq, .slice ao d.m.body.length cap] 45)) #[.int .i64 0, .int .i64 0, .int .i64 0, .int .i64 0, .int .i64 0, .int .i64 0, .int .i64 0, .int .i64 0, .int .i64 0, .int .i64 0, .int .i64 0, .int .i64 0, .bool false, .int .i64 0, .int .i64 0, .int .i64 0, .int .i64 0, .slice none 0 0] 45).mod HA3.out (fun h => h)
    rwa [show (w.alloc (.cells #[.int .i64 d.q, .int .i64 d.r, .int .i64 d.n, .int .i64 d.s, .int .i64 d.t, .int .i64 d.m.kind, .int .i64 d.m.origin, .int .i64 d.m.life, .int .i64 d.m.id, .int .i64 d.m.part, .int .i64 d.m.parts, .int .i64 d.m.groups, .bool d.m.safe, .int .i64 d.m.st, .int .i64 d.m.rs, .int .i64 d.m.rr, .int .i64 d.m.sq, .slice ao d.m.body.length cap] 45)).heap.size = w.heap.size + 1 by simp] at this
  have H2 : Hid (Bk (((w.alloc (.cells #[.int .i64 d.q, .int .i64 d.r, .int .i64 d.n, .int .i64 d.s, .int .i64 d.t, .int .i64 d.m.kind, .int .i64 d.m.origin, .int .i64 d.m.life, .int .i64 d.m.id, .int .i64 d.m.part, .int .i64 d.m.parts, .int .i64 d.m.groups, .bool d.m.safe, .int .i64 d.m.st, .int .i64 d.m.rs, .int .i64 d.m.rr, .int .i64 d.m.sq, .slice ao d.m.body.length cap] 45)).alloc (.cells #[.int .i64 0, .int .i64 0, .int .i64 0, .int .i64 0, .int .i64 0, .int .i64 0, .int .i64 0, .int .i64 0, .int .i64 0, .int .i64 0, .int .i64 0, .int .i64 0, .bool false, .int .i64 0, .int .i64 0, .int .i64 0, .int .i64 0, .slice none 0 0] 45)).alloc (.cells #[.int .i64 0, .int .i64 0, .int .i64 0, .int .i64 0, .int .i64 0, .int .i64 0, .int .i64 0, .int .i64 0, .int .i64 0, .int .i64 0, .int .i64 0, .int .i64 0, .bool false, .int .i64 0, .int .i64 0, .int .i64 0, .int .i64 0, .slice none 0 0] 45)) (w.heap.size + 1 + 1) 45 #[.int .i64 0, .int .i64 0, .int .i64 0, .int .i64 0, .int .i64 0, .int .i64 0, .int .i64 0, .int .i64 0, .int .i64 0, .int .i64 0, .int .i64 0, .int .i64 0, .bool false, .int .i64 0, .int .i64 0, .int .i64 0, .int .i64 0, .slice none 0 0]) := by
    have := Bk.new ((w.alloc (.cells #[.int .i64 d.q, .int .i64 d.r, .int .i64 d.n, .int .i64 d.s, .int .i64 d.t, .int .i64 d.m.kind, .int .i64 d.m.origin, .int .i64 d.m.life, .int .i64 d.m.id, .int .i64 d.m.part, .int .i64 d.m.parts, .int .i64 d.m.groups, .bool d.m.safe, .int .i64 d.m.st, .int .i64 d.m.rs, .int .i64 d.m.rr, .int .i64 d.m.sq, .slice ao d.m.body.length cap] 45)).alloc (.cells #[.int .i64 0, .int .i64 0, .int .i64 0, .int .i64 0, .int .i64 0, .int .i64 0, .int .i64 0, .int .i64 0, .int .i64 0, .int .i64 0, .int .i64 0, .int .i64 0, .bool false, .int .i64 0, .int .i64 0, .int .i64 0, .int .i64 0, .slice none 0 0] 45)) #[.int .i64 0, .int .i64 0, .int .i64 0, .int .i64 0, .int .i64 0, .int .i64 0, .int .i64 0, .int .i64 0, .int .i64 0, .int .i64 0, .int .i64 0, .int .i64 0, .bool false, .int .i64 0, .int .i64 0, .int .i64 0, .int .i64 0, .slice none 0 0] 45
    rwa [show ((w.alloc (.cells #[.int .i64 d.q, .int .i64 d.r, .int .i64 d.n, .int .i64 d.s, .int .i64 d.t, .int .i64 d.m.kind, .int .i64 d.m.origin, .int .i64 d.m.life, .int .i64 d.m.id, .int .i64 d.m.part, .int .i64 d.m.parts, .int .i64 d.m.groups, .bool d.m.safe, .int .i64 d.m.st, .int .i64 d.m.rs, .int .i64 d.m.rr, .int .i64 d.m.sq, .slice ao d.m.body.length cap] 45)).alloc (.cells #[.int .i64 0, .int .i64 0, .int .i64 0, .int .i64 0, .int .i64 0, .int .i64 0, .int .i64 0, .int .i64 0, .int .i64 0, .int .i64 0, .int .i64 0, .int .i64 0, .bool false, .int .i64 0, .int .i64 0, .int .i64 0, .int .i64 0, .slice none 0 0] 45)).heap.size = w.heap.size + 1 + 1 by simp] at this
  have HSZ : Hid ((((w.alloc (.cells #[.int .i64 d.q, .int .i64 d.r, .int .i64 d.n, .int .i64 d.s, .int .i64 d.t, .int .i64 d.m.kind, .int .i64 d.m.origin, .int .i64 d.m.life, .int .i64 d.m.id, .int .i64 d.m.part, .int .i64 d.m.parts, .int .i64 d.m.groups, .bool d.m.safe, .int .i64 d.m.st, .int .i64 d.m.rs, .int .i64 d.m.rr, .int .i64 d.m.sq, .slice ao d.m.body.length cap] 45)).alloc (.cells #[.int .i64 0, .int .i64 0, .int .i64 0, .int .i64 0, .int .i64 0, .int .i64 0, .int .i64 0, .int .i64 0, .int .i64 0, .int .i64 0, .int .i64 0, .int .i64 0, .bool false, .int .i64 0, .int .i64 0, .int .i64 0, .int .i64 0, .slice none 0 0] 45)).alloc (.cells #[.int .i64 0, .int .i64 0, .int .i64 0, .int .i64 0, .int .i64 0, .int .i64 0, .int .i64 0, .int .i64 0, .int .i64 0, .int .i64 0, .int .i64 0, .int .i64 0, .bool false, .int .i64 0, .int .i64 0, .int .i64 0, .int .i64 0, .slice none 0 0] 45)).heap.size = w.heap.size + 3) := by show _ = _; simp
  have HSL : Hid (Sl w _ _) := hs
  clear hs
  go_enter Tryz.func46, Tryz.ntmps46
  go_wp2_with (first | (refine wpList_load_row info18 Tryz.underlying45 rfl rfl _ rfl w.heap.size rfl H0.out rfl ?_; simp only [Act.put, List.setIfInBounds_toArray, List.set_cons_succ, List.set_cons_zero]) | (refine wpList_store_row info18 rfl rfl _ _ rfl (w.heap.size + 1 + 1) #[.int .i64 d.q, .int .i64 d.r, .int .i64 d.n, .int .i64 d.s, .int .i64 d.t, .int .i64 d.m.kind, .int .i64 d.m.origin, .int .i64 d.m.life, .int .i64 d.m.id, .int .i64 d.m.part, .int .i64 d.m.parts, .int .i64 d.m.groups, .bool d.m.safe, .int .i64 d.m.st, .int .i64 d.m.rs, .int .i64 d.m.rr, .int .i64 d.m.sq, .slice ao d.m.body.length cap] rfl rfl H2.out rfl rfl rfl ?_; intro wF hBF hMF; have hB0 := (H0.out.mod HA3.out (fun h => h)).mod hMF (fun e => by omega); have m5 : wF.cell? ⟨w.heap.size, 5, none⟩ = some (.int .i64 d.m.kind) := hB0.cellv (j := 5) rfl; have m6 : wF.cell? ⟨w.heap.size, 6, none⟩ = some (.int .i64 d.m.origin) := hB0.cellv (j := 6) rfl; have m7 : wF.cell? ⟨w.heap.size, 7, none⟩ = some (.int .i64 d.m.life) := hB0.cellv (j := 7) rfl; have m8 : wF.cell? ⟨w.heap.size, 8, none⟩ = some (.int .i64 d.m.id) := hB0.cellv (j := 8) rfl; have m9 : wF.cell? ⟨w.heap.size, 9, none⟩ = some (.int .i64 d.m.part) := hB0.cellv (j := 9) rfl; have m10 : wF.cell? ⟨w.heap.size, 10, none⟩ = some (.int .i64 d.m.parts) := hB0.cellv (j := 10) rfl; have m11 : wF.cell? ⟨w.heap.size, 11, none⟩ = some (.int .i64 d.m.groups) := hB0.cellv (j := 11) rfl; have m12 : wF.cell? ⟨w.heap.size, 12, none⟩ = some (.bool d.m.safe) := hB0.cellv (j := 12) rfl; have m13 : wF.cell? ⟨w.heap.size, 13, none⟩ = some (.int .i64 d.m.st) := hB0.cellv (j := 13) rfl; have m14 : wF.cell? ⟨w.heap.size, 14, none⟩ = some (.int .i64 d.m.rs) := hB0.cellv (j := 14) rfl; have m15 : wF.cell? ⟨w.heap.size, 15, none⟩ = some (.int .i64 d.m.rr) := hB0.cellv (j := 15) rfl; have m16 : wF.cell? ⟨w.heap.size, 16, none⟩ = some (.int .i64 d.m.sq) := hB0.cellv (j := 16) rfl; have m17 : wF.cell? ⟨w.heap.size, 17, none⟩ = some (.slice ao d.m.body.length cap) := hB0.cellv (j := 17) rfl))
  have HMF : Hid (Mod (fun _ => False) w wF) := ((HA1.out.and HA2.out).and HA3.out).trans hMF (fun _ _ h => h) (fun i hi e => by omega)
  have HSF : Hid (w.heap.size + 3 ≤ wF.heap.size) := by show _ ≤ _; have := hMF.size; rw [HSZ.out] at this; exact this
  have HB1 : Hid (Bk wF (w.heap.size + 1) 45 #[.int .i64 0, .int .i64 0, .int .i64 0, .int .i64 0, .int .i64 0, .int .i64 0, .int .i64 0, .int .i64 0, .int .i64 0, .int .i64 0, .int .i64 0, .int .i64 0, .bool false, .int .i64 0, .int .i64 0, .int .i64 0, .int .i64 0, .slice none 0 0]) := H1.out.mod hMF (fun e => by omega)
  have HB2 : Hid (Bk wF (w.heap.size + 1 + 1) 45 #[.int .i64 d.q, .int .i64 d.r, .int .i64 d.n, .int .i64 d.s, .int .i64 d.t, .int .i64 d.m.kind, .int .i64 d.m.origin, .int .i64 d.m.life, .int .i64 d.m.id, .int .i64 d.m.part, .int .i64 d.m.parts, .int .i64 d.m.groups, .bool d.m.safe, .int .i64 d.m.st, .int .i64 d.m.rs, .int .i64 d.m.rr, .int .i64 d.m.sq, .slice ao d.m.body.length cap]) := hBF
  have HC := dCopy d.m.kind d.m.origin d.m.life d.m.id d.m.part d.m.parts d.m.groups d.m.safe d.m.st d.m.rs d.m.rr d.m.sq ao cap d.m.body wF (HSL.out.mod HMF.out (fun _ _ h => h)) hb
  clear hB0 m5 m6 m7 m8 m9 m10 m11 m12 m13 m14 m15 m16 m17 hBF hMF H0 H1 H2 HA1 HA2 HA3
  refine HC.mono ?_
  rintro e w1 ⟨a1, c1, rfl, ho1, hm1, hg1⟩
  have hZ1 := HB1.out.mod hm1 (fun h => h)
  have hO1 := HB2.out.mod hm1 (fun h => h)
  have HM1 : Hid (Mod (fun _ => False) w w1) := HMF.out.and hm1
  have HG1 : Hid (∀ g, (Value.slice a1 d.m.body.length c1).ownBlock = some g → w.heap.size + 3 ≤ g) := fun g hg => Nat.le_trans HSF.out (hg1 g hg)
  have HZ1 : Hid (Bk w1 (w.heap.size + 1) 45 #[.int .i64 0, .int .i64 0, .int .i64 0, .int .i64 0, .int .i64 0, .int .i64 0, .int .i64 0, .int .i64 0, .int .i64 0, .int .i64 0, .int .i64 0, .int .i64 0, .bool false, .int .i64 0, .int .i64 0, .int .i64 0, .int .i64 0, .slice none 0 0]) := hZ1
  have HO1 : Hid (Bk w1 (w.heap.size + 1 + 1) 45 #[.int .i64 d.q, .int .i64 d.r, .int .i64 d.n, .int .i64 d.s, .int .i64 d.t, .int .i64 d.m.kind, .int .i64 d.m.origin, .int .i64 d.m.life, .int .i64 d.m.id, .int .i64 d.m.part, .int .i64 d.m.parts, .int .i64 d.m.groups, .bool d.m.safe, .int .i64 d.m.st, .int .i64 d.m.rs, .int .i64 d.m.rr, .int .i64 d.m.sq, .slice ao d.m.body.length cap]) := hO1
  clear HC hm1 hg1 hZ1 hO1 HB1 HB2 HMF HSF
  go_wp2_with (first | (refine wpList_store_msg info13 rfl rfl _ _ rfl (w.heap.size + 1 + 1) _ _ _ _ _ _ _ _ _ _ _ _ _ _ _ _ _ _ _ _ _ _ _ _ _ _ _ _ _ _ _ rfl rfl HO1.out rfl ?_; intro w2 hO2 hm2) | (refine wpList_load_row info18 Tryz.underlying45 rfl rfl _ rfl (w.heap.size + 1 + 1) rfl hO2 rfl ?_; simp only [Act.put, List.setIfInBounds_toArray, List.set_cons_succ, List.set_cons_zero]) | (refine wpList_store_row info18 rfl rfl _ _ rfl (w.heap.size + 1) #[.int .i64 d.q, .int .i64 d.r, .int .i64 d.n, .int .i64 d.s, .int .i64 d.t, .int .i64 d.m.kind, .int .i64 d.m.origin, .int .i64 d.m.life, .int .i64 d.m.id, .int .i64 d.m.part, .int .i64 d.m.parts, .int .i64 d.m.groups, .bool d.m.safe, .int .i64 d.m.st, .int .i64 d.m.rs, .int .i64 d.m.rr, .int .i64 d.m.sq, .slice a1 d.m.body.length c1] rfl rfl (HZ1.out.mod hm2 (fun e => by omega)) rfl rfl rfl ?_; intro w3 hB3 hm3))
  exact bodyPost_ret (resT info18 Tryz.underlying45 rfl rfl rfl hB3 rfl) rfl ⟨_, rfl, (ho1.mod hm2 (fun q hq e => by have := HG1.out q hq; omega)).mod hm3 (fun q hq e => by have := HG1.out q hq; omega), (HM1.out.trans hm2 (V := fun _ => False) (fun _ _ h => h) (fun q hq h => by omega)).trans hm3 (fun _ _ h => h) (fun q hq h => by omega), fun q hq => by have := HG1.out q hq; omega⟩
end Go.Proofs.YthiijonmnebjgaaGreat
namespace Go.Proofs.YthiijonmnebjgaaGreat
open Go.RowKit Go.Maps
/-- Data with a number. -/
def on (n : Int) : Dt := ⟨1, 1, n, 1, 0, ⟨3, 1, 0, n, 0, 0, 0, false, 0, 0, 0, 0, []⟩⟩
theorem Own.nilSl (w : World) : Sl w (.slice none 0 0) [] := (Own.nil w).sl (by simp)
theorem onSl (w : World) (n : Int) : Sl w (.slice none 0 0) (on n).m.body := Own.nilSl w
theorem okOn {n : Int} (h : 1 ≤ n ∧ n ≤ 9007199254740991) : okP (on n) = true := by
  have e : cr (on n).q (on n).r = 0 := rfl
  unfold okP
  rw [e]
  simp only [beq_self_eq_true, Bool.true_and, Bool.and_eq_true, decide_eq_true_eq]
  exact ⟨h.1, h.2⟩
/-- Put, of data with a number. -/
theorem Put_on {w : World} {p : Nat} {X : Nat → Prop} {J : Int → Option Dt} {a h : Int} {n : Nat} (hw : Wn w p X J a h n) (k : Int) (hk : 1 ≤ k ∧ k ≤ 9007199254740991) (hN : n < 1000000000000) :
    Calls Tryz.prog 11 #[.pointer (some ⟨p, 0, none⟩), dv (on k) (.slice none 0 0)] w fun e w' => ∃ X' a', e = .returned (.tuple #[.bool !(J k).isSome, .int .i64 0]) ∧ Wn w' p X' (if (J k).isSome = true then J else upd J k (some (on k))) a' (max h k) (n + 1) ∧ a ≤ a' ∧ Mod X w w' ∧ Gone w X X' := by
  refine (Put_any hw (on k) _ (onSl w k) (by simp [on]) hN).mono ?_
  rintro e w' ⟨X', a', rfl, h1, h2, h3, h4⟩
  have ho := okOn hk
  have e1 : (on k).n = k := rfl
  refine ⟨X', a', by simp [pF, pE, ho, e1], ?_, h2, h3, h4⟩
  cases hj : (J k).isSome with
  | true =>
    rw [show pJ J (on k) = J by simp [pJ, pF, ho, e1, hj], show pH J h (on k) = h by simp [pH, pF, ho, e1, hj]] at h1
    have : max h k = h := by have := hw.wp.high.2.2 k hj; omega
    rw [this]
    exact h1
  | false =>
    have hj2 : J k = none := by simpa using hj
    rw [show pJ J (on k) = upd J k (some (on k)) by simp [pJ, pF, ho, e1, hj2], show pH J h (on k) = max h k by simp [pH, pF, ho, e1, hj2]] at h1
    exact h1
theorem not_aru {J : Int → Option Dt} {a h : Int} (hp : Wp J a h) (h1 : J 1 = none) : a = 0 := by
  obtain ⟨b0, b1, _⟩ := hp.aru
  rcases Int.lt_or_le a 1 with h | h
  · omega
  · have := b1 1 (Int.le_refl _) h
    rw [h1] at this
    cases this
theorem See_ok {w : World} {p : Nat} {X : Nat → Prop} {J : Int → Option Dt} {a h : Int} {n : Nat} (hw : Wn w p X J a h n) (k : Int) (hk : 0 ≤ k ∧ k ≤ 9007199254740991) : Calls Tryz.prog 48 #[.pointer (some ⟨p, 0, none⟩), .int .i64 k] w fun e w' => e = .returned (.int .i64 0) ∧ Wn w' p X J a (max h k) n ∧ Mod X w w' := by
  refine (See_w hw k).mono ?_
  rintro e w' ⟨rfl, h1, h2⟩
  rw [show sH h k = max h k by simp [sH, okS, hk]] at h1
  exact ⟨by simp [sE, okS, hk], h1, h2⟩
end Go.Proofs.YthiijonmnebjgaaGreat
namespace Go.Proofs.YthiijonmnebjgaaGreat
open Go.RowKit Go.Maps
/-- A row within a block loaded whole. -/
theorem wpList_load_at {ops : Array Oper} {rest : List Oper} {op : Oper} {a : Act} {w : World} {Q : Exit → Act → World → Prop} {t : TypeId} {n : Nat} {d : TypeDesc} (hi : (Tryz.prog.info? t).map (·.size) = some n) (hu : Tryz.prog.underlying t = some d) (hd : d.isRow = true) (hgd : op.guard = none) (x : Operand) (ho : op.op = .load t x)
    (b o : Nat) (hx : a.eval x = .pointer (some ⟨b, o, none⟩)) (cs : List Value) (hr : w.rangeAt b o cs) (hl : cs.length = n)
    (h : wpList Tryz.prog ops Q rest (a.put op.dst (.agg cs.toArray)) w) : wpList Tryz.prog ops Q (op :: rest) a w :=
  wpList_load_mid (P := Tryz.prog) (ops := ops) (rest := rest) (Q := Q) hgd t x ho b o hx cs d hr hu hd (by rw [hi, hl]) h
/-- The data of a number in a list. -/
def jl (L : List Dt) (k : Int) : Option Dt := L.find? (fun d => d.n == k)
theorem jl_app {L : List Dt} {d : Dt} (h : jl L d.n = none) : jl (L ++ [d]) = upd (jl L) d.n (some d) := by
  funext k
  unfold jl at *
  rw [List.find?_append]
  by_cases e : k = d.n
  · subst e
    rw [upd_same, h]
    simp
  · rw [upd_other _ _ e]
    cases hf : L.find? (fun d => d.n == k) with
    | some z => simp
    | none =>
      have : (d.n == k) = false := by simp; exact fun h => e h.symm
      simp [this]
/-- A window of the document's; X: its blocks. -/
structure Dwn (w : World) (p : Nat) (X : Nat → Prop) (L : List Dt) (top : Int) : Prop where
  ex : ∃ v ds, Bk w p 81 #[v, .int .i64 top] ∧ RG w 45 18 v ds.length (fd ds) ∧ ds.map (·.1) = L ∧ (∀ g, v.ownBlock = some g → X g) ∧ ∀ x ∈ ds, Own w x.2 x.1.m.body ∧ (∀ g, x.2.ownBlock = some g → X g) ∧ (∀ c ∈ x.1.m.body, 0 ≤ c ∧ c ≤ 255) ∧ x.1.m.body.length ≤ 140737488355328
  px : X p
  lt : ∀ i, X i → i < w.heap.size
theorem Dwn.mod {S : Nat → Prop} {w w' : World} {p : Nat} {X : Nat → Prop} {L : List Dt} {top : Int} (h : Dwn w p X L top) (hm : Mod S w w') (hS : ∀ i, X i → ¬ S i) : Dwn w' p X L top := by
  obtain ⟨v, ds, h1, h2, h3, h4, h5⟩ := h.ex
  exact ⟨⟨v, ds, h1.mod hm (hS p h.px), h2.mod hm (fun g hg => hS g (h4 g hg)), h3, h4, fun x hx => ⟨(h5 x hx).1.mod hm (fun g hg => hS g ((h5 x hx).2.1 g hg)), (h5 x hx).2⟩⟩, h.px, fun i hi => Nat.lt_of_lt_of_le (h.lt i hi) hm.size⟩
theorem Dwn.keep {w w' : World} {p : Nat} {X : Nat → Prop} {L : List Dt} {top : Int} (h : Dwn w p X L top) (hm : Mod (fun _ => False) w w') : Dwn w' p X L top := h.mod hm (fun _ _ h => h)
theorem dNew (w : World) : Calls Tryz.prog 29 #[] w fun e w' => ∃ p X, e = .returned (.pointer (some ⟨p, 0, none⟩)) ∧ Dwn w' p X [] 0 ∧ (∀ i, X i → w.heap.size ≤ i) ∧ Mod (fun _ => False) w w' := by
  go_enter Tryz.func29, Tryz.ntmps29
  go_wp2
  go_ret
  refine ⟨w.heap.size, fun i => i = w.heap.size, rfl, ⟨⟨.slice none 0 0, [], Bk.new w _ _, RG.nil _ _ _, rfl, by simp [Value.ownBlock], by simp⟩, rfl, fun i hi => by simp; omega⟩, fun i hi => by omega, (Mod.refl _ w).alloc _⟩
theorem Bk.ne_rg {w : World} {p : Nat} {t : TypeId} {xs : Array Value} {v : Value} {n : Nat} {cs : List Value} (h : Bk w p t xs) (ht : t ≠ 45) (hr : RG w 45 18 v n cs) : v.ownBlock ≠ some p := fun e => by
  obtain ⟨cur, hc⟩ := hr.kind e
  rw [h.at'] at hc
  simp at hc
  exact ht hc.2
theorem Bk.ne_ow {w : World} {p : Nat} {t : TypeId} {xs : Array Value} {v : Value} {l : List Int} (h : Bk w p t xs) (ht : t ≠ 5) (hr : Own w v l) : v.ownBlock ≠ some p := fun e => by
  obtain ⟨cur, hc⟩ := hr.kind e
  rw [h.at'] at hc
  simp at hc
  exact ht hc.2
/-- Another greatest number. -/
theorem Dwn.top {w : World} {p : Nat} {X : Nat → Prop} {L : List Dt} {top : Int} (h : Dwn w p X L top) (t' : Int) : Dwn (w.setCell ⟨p, 1, none⟩ (.int .i64 t')) p X L t' := by
  obtain ⟨v, ds, h1, h2, h3, h4, h5⟩ := h.ex
  have hm := (Mod.refl (fun i => i = p) w).setCell ⟨p, 1, none⟩ (.int .i64 t') (.inl rfl)
  exact ⟨⟨v, ds, h1.set 1 _, h2.mod hm (fun g hg e => h1.ne_rg (by decide) h2 (e ▸ hg)), h3, h4, fun x hx => ⟨(h5 x hx).1.mod hm (fun g hg e => h1.ne_ow (by decide) (h5 x hx).1 (e ▸ hg)), (h5 x hx).2⟩⟩, h.px, fun i hi => Nat.lt_of_lt_of_le (h.lt i hi) hm.size⟩
theorem dHigh {w : World} {p : Nat} {X : Nat → Prop} {L : List Dt} {top : Int} (h : Dwn w p X L top) : Calls Tryz.prog 22 #[.pointer (some ⟨p, 0, none⟩)] w fun e w' => e = .returned (.int .i64 top) ∧ w' = w := by
  obtain ⟨v, ds, h1, _⟩ := h.ex
  have c1 : w.cell? ⟨p, 1, none⟩ = some (.int .i64 top) := h1.cellv (j := 1) rfl
  clear h1
  go_enter Tryz.func22, Tryz.ntmps22
  go_wp2
  go_ret
  exact ⟨rfl, rfl⟩
/-- The first of a number. -/
theorem jl_at {L : List Dt} {k : Int} {i : Nat} {d : Dt} (h : ∀ (t : Nat) (z : Dt), t < i → L[t]? = some z → z.n ≠ k) (hi : L[i]? = some d) (hd : d.n = k) : jl L k = some d := by
  induction L generalizing i with
  | nil => simp at hi
  | cons a r ih =>
    unfold jl
    rw [List.find?_cons]
    cases i with
    | zero =>
      simp at hi
      subst hi
      simp [hd]
    | succ i =>
      have := h 0 a (by omega) rfl
      rw [show (a.n == k) = false by simpa using this]
      exact ih (i := i) (fun t z ht hz => h (t + 1) z (by omega) (by simpa using hz)) (by simpa using hi)
theorem jl_none {L : List Dt} {k : Int} (h : ∀ (t : Nat) (z : Dt), L[t]? = some z → z.n ≠ k) : jl L k = none := by
  unfold jl
  rw [List.find?_eq_none]
  intro z hz
  obtain ⟨t, ht⟩ := List.getElem?_of_mem hz
  simpa using h t z ht
set_option maxRecDepth 100000 in
set_option maxHeartbeats 4000000 in
theorem dGet {w : World} {p : Nat} {X : Nat → Prop} {L : List Dt} {top : Int} (h : Dwn w p X L top) (hl : L.length ≤ 1000000) (k : Int) : Calls Tryz.prog 24 #[.pointer (some ⟨p, 0, none⟩), .int .i64 k] w fun e w' => ∃ v, e = .returned (.tuple #[dv ((jl L k).getD d0) v, .bool (jl L k).isSome]) ∧ Own w' v ((jl L k).getD d0).m.body ∧ Mod (fun _ => False) w w' ∧ (∀ g, v.ownBlock = some g → w.heap.size ≤ g) := by
  have hA := (Mod.refl (fun _ => False) w).alloc (.cells #[.int .i64 0, .int .i64 0, .int .i64 0, .int .i64 0, .int .i64 0, .int .i64 0, .int .i64 0, .int .i64 0, .int .i64 0, .int .i64 0, .int .i64 0, .int .i64 0, .bool false, .int .i64 0, .int .i64 0, .int .i64 0, .int .i64 0, .slice none 0 0] 45)
  have hZ : Hid (Bk _ _ _ _) := Bk.new w #[.int .i64 0, .int .i64 0, .int .i64 0, .int .i64 0, .int .i64 0, .int .i64 0, .int .i64 0, .int .i64 0, .int .i64 0, .int .i64 0, .int .i64 0, .int .i64 0, .bool false, .int .i64 0, .int .i64 0, .int .i64 0, .int .i64 0, .slice none 0 0] 45
  have HA : Hid (Mod _ _ _) := hA
  have HW : Hid (Dwn _ p X L top) := h.keep hA
  obtain ⟨v, ds, h1, h2, h3, h4, h5⟩ := HW.out.ex
  have c0 := h1.cellv (j := 0) rfl
  have HDS : Hid (ds.map (·.1) = L) := h3
  have HR : Hid (RG _ 45 18 v ds.length (fd ds)) := h2
  have HE : Hid (∀ x ∈ ds, Own _ x.2 x.1.m.body ∧ (∀ g, x.2.ownBlock = some g → X g) ∧ (∀ c ∈ x.1.m.body, 0 ≤ c ∧ c ≤ 255) ∧ x.1.m.body.length ≤ 140737488355328) := h5
  have hdl : ds.length ≤ 1000000 := by have := congrArg List.length h3; simp at this; omega
  have HSZ : Hid (w.heap.size < (w.alloc (.cells #[.int .i64 0, .int .i64 0, .int .i64 0, .int .i64 0, .int .i64 0, .int .i64 0, .int .i64 0, .int .i64 0, .int .i64 0, .int .i64 0, .int .i64 0, .int .i64 0, .bool false, .int .i64 0, .int .i64 0, .int .i64 0, .int .i64 0, .slice none 0 0] 45)).heap.size) := by show _ < _; simp
  obtain ⟨av, cv, rfl⟩ := h2.shape
  clear h1 h2 h3 h4 h5 h hA
  go_enter Tryz.func24, Tryz.ntmps24
  go_wp2_with (fail)
  obtain ⟨w1, ew1⟩ : ∃ w1, w1 = w.alloc (.cells #[.int .i64 0, .int .i64 0, .int .i64 0, .int .i64 0, .int .i64 0, .int .i64 0, .int .i64 0, .int .i64 0, .int .i64 0, .int .i64 0, .int .i64 0, .int .i64 0, .bool false, .int .i64 0, .int .i64 0, .int .i64 0, .int .i64 0, .slice none 0 0] 45) := ⟨_, rfl⟩
  rw [← ew1] at HA hZ HW c0 HR HE HSZ ⊢
  clear ew1
  go_loopw [6] (fun i wr => ∃ (j : Nat), i = .int .i64 (j : Int) ∧ j ≤ ds.length ∧ wr = w1 ∧ Hid (∀ t z, t < j → ds[t]? = some z → z.1.n ≠ k)) (fun i _ => ds.length - (intOf i).toNat)
  case atStart => exact ⟨0, rfl, Nat.zero_le _, rfl, by intro t z ht; omega⟩
  case round =>
    obtain ⟨j, rfl, hj, rfl, hno⟩ := hrel
    by_cases hlt : j < ds.length
    · have hlt' : (j : Int) < (ds.length : Int) := by omega
      obtain ⟨x, hx⟩ : ∃ x, ds[j]? = some x := ⟨ds[j], List.getElem?_eq_getElem hlt⟩
      obtain ⟨gb, of, cp, e, hrg⟩ := HR.out.range (by omega)
      cases e
      have hxc : ∀ t c, (dcl x.1 x.2)[t]? = some c → wr.cell? ⟨gb, of + j * 18 + t, none⟩ = some c := fun t c ht => by
        have := hrg (j * 18 + t) _ (fd_get ds j x hx t c ht)
        rwa [← Nat.add_assoc] at this
      have m2 : wr.cell? ⟨gb, of + j * 18 + 2, none⟩ = some (.int .i64 x.1.n) := hxc 2 _ rfl
      have HX : Hid (ds[j]? = some x) := hx
      have hb1 : (0 : Int) ≤ (j : Int) := by omega
      have hjb : (j : Int) + 1 ≤ 1000000 := by omega
      have HLT : Hid (j < ds.length) := hlt
      by_cases hn : x.1.n = k
      · have hbn : (x.1.n == k) = true := by simp [hn]
        have HJ : Hid (jl L k = some x.1) := by
          show _ = _
          refine jl_at (i := j) (fun t z ht hz => ?_) (by rw [← HDS.out, List.getElem?_map, hx]; rfl) hn
          rw [← HDS.out, List.getElem?_map] at hz
          obtain ⟨y, hy, rfl⟩ := Option.map_eq_some_iff.1 hz
          exact hno.out t y ht hy
        obtain ⟨xo, -, xr, xb⟩ := HE.out x (List.mem_of_getElem? hx)
        obtain ⟨d, u⟩ := x
        have HXO : Hid (Own wr u d.m.body) := xo
        clear xo
        obtain ⟨ax, cx, rfl⟩ := HXO.out.shape
        have HC := copy_dt d _ wr (HXO.out.sl xr) xb
        have hra : wr.rangeAt gb (of + j * 18) (dcl d (.slice ax d.m.body.length cx)) := fun t c ht => hxc t c ht
        replace m2 : wr.cell? ⟨gb, of + j * 18 + 2, none⟩ = some (.int .i64 d.n) := m2
        replace hbn : (d.n == k) = true := hbn
        clear hxc hrg hx hn
        go_wp2_with (refine wpList_load_at info18 Tryz.underlying45 rfl rfl _ rfl gb (of + j * 18) rfl _ hra rfl ?_; unfold dcl; simp only [Act.put, List.setIfInBounds_toArray, List.set_cons_succ, List.set_cons_zero])
        refine HC.mono ?_
        rintro e w2 ⟨v2, rfl, ho2, hm2, hg2⟩
        obtain ⟨a2, c2, rfl⟩ := ho2.shape
        have hZ2 := hZ.out.mod hm2 (fun h => h)
        have hs1 := HSZ.out
        unfold dv
        clear HC c0 m2 hra
        go_wp2_with (refine wpList_store_row info18 rfl rfl _ _ rfl w.heap.size #[.int .i64 d.q, .int .i64 d.r, .int .i64 d.n, .int .i64 d.s, .int .i64 d.t, .int .i64 d.m.kind, .int .i64 d.m.origin, .int .i64 d.m.life, .int .i64 d.m.id, .int .i64 d.m.part, .int .i64 d.m.parts, .int .i64 d.m.groups, .bool d.m.safe, .int .i64 d.m.st, .int .i64 d.m.rs, .int .i64 d.m.rr, .int .i64 d.m.sq, .slice a2 d.m.body.length c2] rfl rfl hZ2 rfl rfl rfl ?_; intro wF hBF hMF)
        refine bodyPost_ret (resT2 info18 Tryz.underlying45 rfl rfl rfl rfl hBF rfl) rfl ?_
        rw [HJ.out]
        exact ⟨_, rfl, ho2.mod hMF (fun i hi e => by have := hg2 i hi; omega), (HA.out.and hm2).trans hMF (V := fun _ => False) (fun _ _ h => h) (fun i hi h => by omega), fun g hg => by have := hg2 g hg; omega⟩
      · have hbn : (x.1.n == k) = false := by simp [hn]
        have HNO : Hid (∀ t z, t < j + 1 → ds[t]? = some z → z.1.n ≠ k) := fun t z ht hz => by
          rcases Nat.lt_or_ge t j with h | h
          · exact hno.out t z h hz
          · obtain rfl : t = j := by omega
            rw [hx] at hz
            cases hz
            exact hn
        clear hxc hrg hx hn
        generalize x.1.n = y at *
        go_wp2_with (fail)
        go_roundw
        case rel => exact ⟨j + 1, by go_num, HLT.out, by first | rfl | trivial, HNO⟩
        case measure =>
          have := HLT.out
          simp [intOf]
          omega
    · have HJ : Hid (jl L k = none) := by
        show _ = _
        refine jl_none fun t z hz => ?_
        rw [← HDS.out, List.getElem?_map] at hz
        obtain ⟨y, hy, rfl⟩ := Option.map_eq_some_iff.1 hz
        exact hno.out t y (by have := (List.getElem?_eq_some_iff.1 hy).1; omega) hy
      have hs1 := HSZ.out
      go_wp2_with (refine wpList_store_row info18 rfl rfl _ _ rfl w.heap.size #[.int .i64 0, .int .i64 0, .int .i64 0, .int .i64 0, .int .i64 0, .int .i64 0, .int .i64 0, .int .i64 0, .int .i64 0, .int .i64 0, .int .i64 0, .int .i64 0, .bool false, .int .i64 0, .int .i64 0, .int .i64 0, .int .i64 0, .slice none 0 0] rfl rfl hZ.out rfl rfl rfl ?_; intro wF hBF hMF)
      refine bodyPost_ret (resT2 info18 Tryz.underlying45 rfl rfl rfl rfl hBF rfl) rfl ?_
      rw [HJ.out]
      exact ⟨_, rfl, Own.nil _, HA.out.trans hMF (V := fun _ => False) (fun _ _ h => h) (fun i hi h => by omega), by simp [Value.ownBlock]⟩
end Go.Proofs.YthiijonmnebjgaaGreat
