/- For TwinKnown: twins that are none; a twin of two lanes known by its numbers; a twin of three that sends by turns; slices that stay. No conditions. -/
import Derived.Test.YtlkkbfcedjedoaaTvp
namespace Go.Proofs.Ytlkkbfcedjedoaa
open Go.RowKit
/-- A twin that is none. -/
def Nn (w : World) (v : Value) : Prop := v = .pointer none ∨ ∃ p, v = .pointer (some ⟨p, 0, none⟩) ∧ w.cell? ⟨p, 0, none⟩ = some (.int .i64 0)
theorem Nn.keep {w w' : World} {v : Value} (h : Nn w v) (hm : Mod (fun _ => False) w w') : Nn w' v := by
  rcases h with h | ⟨p, h1, h2⟩
  · exact .inl h
  · exact .inr ⟨p, h1, hm.cell h2 (fun h => h)⟩
theorem Nn.isNone {w : World} {v : Value} (h : Nn w v) : Calls Try.prog 53 #[v] w fun e w' => e = .returned (.bool true) ∧ w' = w := by
  rcases h with rfl | ⟨p, rfl, h2⟩
  · exact tNone_nil w
  · exact tNone_zero p w h2
theorem Nn.faulty {w : World} {v : Value} (h : Nn w v) : Calls Try.prog 27 #[v] w fun e w' => e = .returned (.int .i64 0) ∧ w' = w := by
  have HN := h.isNone
  clear h
  go_enter Try.func27, Try.ntmps27
  go_wp2_with (fail)
  refine HN.mono ?_
  rintro e w ⟨rfl, rfl⟩
  go_wp2
  go_ret
  exact ⟨rfl, rfl⟩
theorem Nn.wrap {w : World} {v : Value} (h : Nn w v) (vb : Value) : Calls Try.prog 21 #[v, vb] w fun e w' => e = .returned (.tuple #[.slice none 0 0, .int .i64 0, .int .i64 1]) ∧ w' = w := by
  have HN := h.isNone
  clear h
  go_enter Try.func21, Try.ntmps21
  go_wp2_with (fail)
  refine HN.mono ?_
  rintro e w ⟨rfl, rfl⟩
  go_wp2
  go_ret3
  exact ⟨rfl, rfl⟩
theorem Nn.check {w : World} {v : Value} (h : Nn w v) (n : Int) : Calls Try.prog 56 #[v, .int .i64 n] w fun e w' => e = .returned (.int .i64 1) ∧ w' = w := by
  have HN := h.isNone
  clear h
  go_enter Try.func56, Try.ntmps56
  go_wp2_with (fail)
  refine HN.mono ?_
  rintro e w ⟨rfl, rfl⟩
  go_wp2
  go_ret
  exact ⟨rfl, rfl⟩
theorem Nn.rein {w : World} {v : Value} (h : Nn w v) (n : Int) : Calls Try.prog 25 #[v, .int .i64 n] w fun e w' => e = .returned (.int .i64 1) ∧ w' = w := by
  have HN := h.check n
  clear h
  go_enter Try.func25, Try.ntmps25
  go_wp2_with (fail)
  refine HN.mono ?_
  rintro e w ⟨rfl, rfl⟩
  go_wp2
  go_ret
  exact ⟨rfl, rfl⟩
theorem Nn.unwrap {w : World} {v : Value} (h : Nn w v) (n : Int) (vb : Value) : Calls Try.prog 23 #[v, .int .i64 n, vb] w fun e w' => e = .returned (.tuple #[.slice none 0 0, .bool false, .int .i64 1]) ∧ Mod (fun _ => False) w w' := by
  have HN := h.check n
  clear h
  go_enter Try.func23, Try.ntmps23
  go_wp2_with (fail)
  refine HN.mono ?_
  rintro e w ⟨rfl, rfl⟩
  go_wp2
  go_ret3
  exact ⟨rfl, Mod.refl _ _⟩
theorem Nn.comes {w : World} {v : Value} (h : Nn w v) (n : Int) (vb : Value) : Calls Try.prog 30 #[v, .int .i64 n, vb] w fun e w' => e = .returned (.int .i64 (-1)) ∧ Mod (fun _ => False) w w' := by
  have HN := h.unwrap n vb
  clear h
  go_enter Try.func30, Try.ntmps30
  go_wp2_with (fail)
  refine HN.mono ?_
  rintro e w1 ⟨rfl, hm⟩
  go_wp2
  go_ret
  exact ⟨rfl, hm⟩
/-- Of two. -/
def p2 {α : Type} (a b : α) (i : Nat) : α := if i = 0 then a else b
def tp2 (f0 f1 : Bool) (x y : Int) : Int := gr (p2 x y) (on (p2 f0 f1) false 2) 2
/-- What a twin of two lanes is when one more came over the lane k. -/
def cm (k : Nat) (f0 f1 : Bool) (x y : Int) : Bool × Bool × Int × Int :=
  let x' := if k = 0 then x + 1 else x
  let y' := if k = 1 then y + 1 else y
  (decide (10 < tp2 f0 f1 x' y' - x') || f0, decide (10 < tp2 f0 f1 x' y' - y') || f1, x', y')
structure Q2 (a : Tn) (f0 f1 : Bool) (x y : Int) (l : Nat) : Prop where
  sz : a.sz = 2
  f0 : a.f 0 = f0
  f1 : a.f 1 = f1
  c0 : a.c 0 = x
  c1 : a.c 1 = y
  la : a.la = l
theorem gr2 {c c' : Nat → Int} (m : Nat) (h0 : c 0 = c' 0) (h1 : c 1 = c' 1) : gr c m 2 = gr c' m 2 := by simp [gr, h0, h1]
theorem on2 {f f' : Nat → Bool} (b : Bool) (h0 : f 0 = f' 0) (h1 : f 1 = f' 1) : on f b 2 = on f' b 2 := by simp [on, h0, h1]
theorem Q2.came {a : Tn} {f0 f1 : Bool} {x y : Int} {l : Nat} (h : Q2 a f0 f1 x y l) (k : Nat) : Q2 (a.came k) (cm k f0 f1 x y).1 (cm k f0 f1 x y).2.1 (cm k f0 f1 x y).2.2.1 (cm k f0 f1 x y).2.2.2 l := by
  have hc0 : (a.cnt k).c 0 = if k = 0 then x + 1 else x := by
    simp only [Tn.cnt]
    by_cases e : k = 0
    · subst e; simp [h.c0]
    · rw [if_neg (fun e' => e e'.symm), if_neg e, h.c0]
  have hc1 : (a.cnt k).c 1 = if k = 1 then y + 1 else y := by
    simp only [Tn.cnt]
    by_cases e : k = 1
    · subst e; simp [h.c1]
    · rw [if_neg (fun e' => e e'.symm), if_neg e, h.c1]
  have hs : (a.cnt k).sz = 2 := h.sz
  have ht : (a.cnt k).top = tp2 f0 f1 (if k = 0 then x + 1 else x) (if k = 1 then y + 1 else y) := by
    unfold Tn.top tp2
    rw [hs, show (a.cnt k).f = a.f from rfl, on2 (f' := p2 f0 f1) false h.f0 h.f1]
    exact gr2 _ hc0 hc1
  have hf : ∀ j, j < 2 → (a.came k).f j = (decide (10 < (a.cnt k).top - (a.cnt k).c j) || a.f j) := fun j hj => by
    show (a.cnt k).lkf (a.cnt k).sz j = _
    unfold Tn.lkf
    rw [hs]
    by_cases e : 10 < (a.cnt k).top - (a.cnt k).c j
    · rw [if_pos ⟨hj, e⟩]; simp [e]
    · rw [if_neg (fun h => e h.2)]; simp only [e, decide_false, Bool.false_or]; rfl
  refine ⟨h.sz, ?_, ?_, hc0, hc1, h.la⟩
  · rw [hf 0 (by omega), ht, hc0, h.f0]; rfl
  · rw [hf 1 (by omega), ht, hc1, h.f1]; rfl
def nx2 (f0 f1 : Bool) (l : Nat) : Nat := nw (p2 f0 f1) 2 ((l + 1) % 2)
theorem Q2.nx {a : Tn} {f0 f1 : Bool} {x y : Int} {l : Nat} (h : Q2 a f0 f1 x y l) : a.nx = nx2 f0 f1 l := by
  have hf : ∀ j, j < 2 → a.f j = p2 f0 f1 j := fun j hj => by
    rcases (by omega : j = 0 ∨ j = 1) with rfl | rfl
    · exact h.f0
    · exact h.f1
  unfold Tn.nx nx2 nw
  rw [h.sz, h.la, hf _ (Nat.mod_lt _ (by omega)), hf _ (Nat.mod_lt _ (by omega))]
theorem Q2.rein {a : Tn} {f0 f1 : Bool} {x y : Int} {l : Nat} (h : Q2 a f0 f1 x y l) : Q2 (a.rein 1) f0 false (gr (p2 x y) 3 2) (gr (p2 x y) 3 2) l := by
  have e : gr a.c (2 ^ a.sz - 1) a.sz = gr (p2 x y) 3 2 := by
    rw [h.sz]
    exact gr2 _ h.c0 h.c1
  have hs := h.sz
  refine ⟨h.sz, ?_, ?_, ?_, ?_, h.la⟩
  · simp [Tn.rein, Tn.evn, Tn.clr, h.f0]
  · simp [Tn.rein, Tn.evn, Tn.clr]
  · simp only [Tn.rein, Tn.evn, Tn.clr]; rw [e, if_pos (by omega)]
  · simp only [Tn.rein, Tn.evn, Tn.clr]; rw [e, if_pos (by omega)]
/-- What one sender is known by: whether a frame is new, and what is known behind it. -/
def nb (z : Option Kw) (l n : Int) : Bool := match z with
  | none => true
  | some z => if z.lf < l then true else if l < z.lf then false else fr z.t z.F n
def nk (z : Option Kw) (l n : Int) : Option Kw := match z with
  | none => some ⟨l, n, see (fun _ => false) n true⟩
  | some z => if z.lf < l then some ⟨l, n, see (fun _ => false) n true⟩ else if l < z.lf then some z else some ⟨z.lf, max z.t n, see z.F n (fr z.t z.F n)⟩
theorem nwB_eq (K : Int → Option Kw) (s l n : Int) : nwB K s l n = nb (K s) l n := by
  unfold nwB nb
  cases K s <;> rfl
theorem nwK_own (K : Int → Option Kw) (s l n : Int) : nwK K s l n s = nk (K s) l n := by
  unfold nwK nk
  cases hK : K s with
  | none => simp [updq]
  | some z =>
    simp only
    split
    · simp [updq]
    · split
      · exact hK
      · simp [updq]
theorem nwK_other (K : Int → Option Kw) (s l n : Int) {j : Int} (hj : j ≠ s) : nwK K s l n j = K j := by
  unfold nwK
  cases hK : K s with
  | none => simp [updq, hj]
  | some z =>
    simp only
    split
    · simp [updq, hj]
    · split
      · rfl
      · simp [updq, hj]
/-- Serials 1 to k of the first life came. -/
def kk (k : Nat) : Option Kw := if k = 0 then none else some ⟨1, k, fun m => decide (1 ≤ m ∧ m ≤ k)⟩
theorem kk_new (k : Nat) : nb (kk k) 1 ((k : Int) + 1) = true := by
  unfold kk nb
  split
  · rfl
  · rename_i h
    split at h
    · cases h
    · cases h
      simp [fr]
      omega
theorem kk_step (k : Nat) : nk (kk k) 1 ((k : Int) + 1) = kk (k + 1) := by
  unfold kk nk
  by_cases h0 : k = 0
  · subst h0
    simp only [if_true, if_neg (show ¬ (0 + 1 = 0) by omega)]
    congr 2
    funext m
    have : (decide (m = 0 + 1)) = decide (1 ≤ m ∧ m ≤ ((0 + 1 : Nat) : Int)) := decide_eq_decide.2 (by constructor <;> intro <;> omega)
    simpa [see] using this
  · rw [if_neg h0, if_neg (by omega)]
    simp only
    rw [if_neg (by omega), if_neg (by omega)]
    congr 2
    · push_cast; omega
    · funext m
      have hf : fr (k : Int) (fun m => decide (1 ≤ m ∧ m ≤ (k : Int))) ((k : Int) + 1) = true := by simp [fr]; omega
      rw [hf]
      simp only [see, Bool.and_true]
      rw [← Bool.decide_or]
      apply decide_eq_decide.2
      push_cast
      omega
/-- A twin of two lanes, by its numbers; what it knows of the senders 5, 6, 7. -/
structure Us (w0 w : World) (u : Nat) (f0 f1 : Bool) (x y : Int) (l : Nat) (k5 k6 k7 : Option Kw) (N : Nat) : Prop where
  is : ∃ X a K, E1 w0 w u X a K N 2 ∧ Q2 a f0 f1 x y l ∧ K 5 = k5 ∧ K 6 = k6 ∧ K 7 = k7
section
variable {w0 w : World} {u : Nat} {f0 f1 : Bool} {x y : Int} {l : Nat} {k5 k6 k7 : Option Kw} {N : Nat}
theorem Us.m (h : Us w0 w u f0 f1 x y l k5 k6 k7 N) : Mod (fun _ => False) w0 w := by
  obtain ⟨X, a, K, hE, _⟩ := h.is
  exact hE.m
theorem Us.keep {w' : World} (h : Us w0 w u f0 f1 x y l k5 k6 k7 N) (hm : Mod (fun _ => False) w w') : Us w0 w' u f0 f1 x y l k5 k6 k7 N := by
  obtain ⟨X, a, K, hE, r⟩ := h.is
  exact ⟨X, a, K, hE.keep hm, r⟩
theorem Us.faulty (h : Us w0 w u f0 f1 x y l k5 k6 k7 N) (F : Int) (hF : ((on (p2 f0 f1) true 2 : Nat) : Int) = F) : Calls Try.prog 27 #[.pointer (some ⟨u, 0, none⟩)] w fun e w' => e = .returned (.int .i64 F) ∧ w' = w := by
  obtain ⟨X, a, K, hE, hQ, _⟩ := h.is
  have := hE.faulty
  rw [on2 (f' := p2 f0 f1) true hQ.f0 hQ.f1, hF] at this
  exact this
theorem Us.frame (h : Us w0 w u f0 f1 x y l k5 k6 k7 N) (s l' n : Int) (hok : okF s l' n 0 = true) : Calls Try.prog 29 #[.int .i64 s, .int .i64 l', .int .i64 n, .slice none 0 0] w fun e w' => ∃ v', e = .returned v' ∧ Us w0 w' u f0 f1 x y l k5 k6 k7 N ∧ Sl w' v' (paD s l' n []) := by
  refine (frame_none s l' n hok w).mono ?_
  rintro e w' ⟨v', rfl, hs, hm, _⟩
  exact ⟨v', rfl, h.keep hm, hs⟩
theorem Us.comes (h : Us w0 w u f0 f1 x y l k5 k6 k7 N) (hN : N < 1000) (k : Nat) (hk : k < 2) {v : Value} {s l' n : Int} (hv : Sl w v (paD s l' n [])) (hok : okF s l' n 0 = true)
    (r : Int) (hr : (if nb (if s = 5 then k5 else if s = 6 then k6 else k7) l' n then (1 : Int) else 0) = r) (hs : s = 5 ∨ s = 6 ∨ s = 7)
    (g0 g1 : Bool) (x' y' : Int) (hc : cm k f0 f1 x y = (g0, g1, x', y')) (j5 j6 j7 : Option Kw)
    (h5 : (if s = 5 then nk k5 l' n else k5) = j5) (h6 : (if s = 6 then nk k6 l' n else k6) = j6) (h7 : (if s = 7 then nk k7 l' n else k7) = j7) :
    Calls Try.prog 30 #[.pointer (some ⟨u, 0, none⟩), .int .i64 k, v] w fun e w' => e = .returned (.int .i64 r) ∧ Us w0 w' u g0 g1 x' y' l j5 j6 j7 (N + 1) := by
  obtain ⟨X, a, K, hE, hQ, e5, e6, e7⟩ := h.is
  refine (comes_fr hE.tt (N := N) (by omega) hE.ta k (by rw [hE.sz]; exact hk) hv hok).mono ?_
  rintro e w' ⟨X', rfl, hT', hm, hG⟩
  have hQ' := hQ.came k
  rw [hc] at hQ'
  refine ⟨?_, X', _, _, ⟨hE.m.andX hm hE.xg, hT', hE.ta.came k, hG.ge hE.xg hE.m.size, hE.ac, hE.sz⟩, hQ', ?_, ?_, ?_⟩
  · rw [nwB_eq, ← hr]
    rcases hs with rfl | rfl | rfl <;> simp [e5, e6, e7]
  · rcases hs with rfl | rfl | rfl
    · rw [nwK_own, e5, ← h5]; rfl
    · rw [nwK_other _ _ _ _ (by omega), e5, ← h5]; rfl
    · rw [nwK_other _ _ _ _ (by omega), e5, ← h5]; rfl
  · rcases hs with rfl | rfl | rfl
    · rw [nwK_other _ _ _ _ (by omega), e6, ← h6]; rfl
    · rw [nwK_own, e6, ← h6]; rfl
    · rw [nwK_other _ _ _ _ (by omega), e6, ← h6]; rfl
  · rcases hs with rfl | rfl | rfl
    · rw [nwK_other _ _ _ _ (by omega), e7, ← h7]; rfl
    · rw [nwK_other _ _ _ _ (by omega), e7, ← h7]; rfl
    · rw [nwK_own, e7, ← h7]; rfl
theorem Us.wrap (h : Us w0 w u f0 f1 x y l k5 k6 k7 N) (hN : N < 1000) (O : Int) (l' : Nat) (hl : nx2 f0 f1 l = l') (hO : ((2 ^ l' : Nat) : Int) = O) : Calls Try.prog 21 #[.pointer (some ⟨u, 0, none⟩), .slice none 0 0] w fun e w' => ∃ v', e = .returned (.tuple #[v', .int .i64 O, .int .i64 0]) ∧ Us w0 w' u f0 f1 x y l' k5 k6 k7 (N + 1) := by
  obtain ⟨X, a, K, hE, hQ, r⟩ := h.is
  have H := tWrap_ok hE.tt (N := N) (by omega) hE.ta (.slice none 0 0) [] ((Own.nil _).sl (by simp)) (by simp)
  rw [ov_eq hE.ac, hQ.nx, hl, hO] at H
  refine H.mono ?_
  rintro e w' ⟨v', rfl, _, hT, hm, _⟩
  have hpx := hE.tt.px
  have we := wr_eq hE.ac
  have hsz : a.wrap.sz = 2 := by rw [we]; exact hE.sz
  have hac : a.wrap.ac = false := by rw [we]; exact hE.ac
  refine ⟨v', rfl, X, a.wrap, K, ⟨hE.m.andX hm (fun i e => by rw [e]; exact hE.xg u hpx), hT, hE.ta.wrap, hE.xg, hac, hsz⟩, ⟨hsz, ?_, ?_, ?_, ?_, ?_⟩, r⟩
  · rw [we]; exact hQ.f0
  · rw [we]; exact hQ.f1
  · rw [we]; exact hQ.c0
  · rw [we]; exact hQ.c1
  · rw [we]; show a.nx = l'; rw [hQ.nx, hl]
theorem Us.reinA (h : Us w0 w u f0 f1 x y l k5 k6 k7 N) (n : Int) (hn : ¬ (0 ≤ n ∧ n < 2)) : Calls Try.prog 25 #[.pointer (some ⟨u, 0, none⟩), .int .i64 n] w fun e w' => e = .returned (.int .i64 2) ∧ w' = w := by
  obtain ⟨X, a, K, hE, hQ, _⟩ := h.is
  exact tRein_arg hE.tt hE.ta n (by rw [hE.sz]; exact hn)
theorem Us.reinW (h : Us w0 w u f0 f1 x y l k5 k6 k7 N) (n : Nat) (hn : n < 2) (hf : p2 f0 f1 n = false) : Calls Try.prog 25 #[.pointer (some ⟨u, 0, none⟩), .int .i64 n] w fun e w' => e = .returned (.int .i64 80) ∧ w' = w := by
  obtain ⟨X, a, K, hE, hQ, _⟩ := h.is
  refine tRein_well hE.tt hE.ta n (by rw [hE.sz]; exact hn) ?_
  rcases (by omega : n = 0 ∨ n = 1) with rfl | rfl
  · rw [hQ.f0]; exact hf
  · rw [hQ.f1]; exact hf
theorem Us.rein (h : Us w0 w u f0 true x y l k5 k6 k7 N) (T : Int) (hT : gr (p2 x y) 3 2 = T) : Calls Try.prog 25 #[.pointer (some ⟨u, 0, none⟩), .int .i64 1] w fun e w' => e = .returned (.int .i64 0) ∧ Us w0 w' u f0 false T T l k5 k6 k7 N := by
  obtain ⟨X, a, K, hE, hQ, r⟩ := h.is
  have hQ' := hQ.rein
  rw [hT] at hQ'
  have hpx := hE.tt.px
  refine (tRein_ok hE.tt hE.ta 1 (by rw [hE.sz]; omega) hQ.f1).mono ?_
  rintro e w' ⟨rfl, hT', hm⟩
  exact ⟨rfl, X, a.rein 1, K, ⟨hE.m.andX hm (fun i e => by rw [e]; exact hE.xg u hpx), hT', hE.ta.rein (by rw [hE.sz]; omega), hE.xg, hE.ac, hE.sz⟩, hQ', r⟩
theorem Us.bad (h : Us w0 w u f0 f1 x y l k5 k6 k7 N) (n : Int) (hn : 0 ≤ n ∧ n < 2) (v : Value) (b : List Int) (hs : Sl w v b) (hb : b.length ≤ 1000) (E : Int) (hE : opE b = E) (h0 : ¬ E = 0) (hR : -100 ≤ E ∧ E ≤ 100) : Calls Try.prog 30 #[.pointer (some ⟨u, 0, none⟩), .int .i64 n, v] w fun e w' => e = .returned (.int .i64 (-E)) ∧ Us w0 w' u f0 f1 x y l k5 k6 k7 N := by
  obtain ⟨X, a, K, he, _⟩ := h.is
  have := comes_err he.tt he.ta n (by rw [he.sz]; exact hn) v b hs (by omega) (by rw [hE]; exact h0) (by rw [hE]; exact hR)
  rw [hE] at this
  refine this.mono ?_
  rintro e w' ⟨rfl, hm⟩
  exact ⟨rfl, h.keep hm⟩
theorem Us.arg (h : Us w0 w u f0 f1 x y l k5 k6 k7 N) (n : Int) (hn : ¬ (0 ≤ n ∧ n < 2)) (v : Value) : Calls Try.prog 30 #[.pointer (some ⟨u, 0, none⟩), .int .i64 n, v] w fun e w' => e = .returned (.int .i64 (-2)) ∧ w' = w := by
  obtain ⟨X, a, K, he, _⟩ := h.is
  exact comes_arg he.tt he.ta n (by rw [he.sz]; exact hn) v
end
theorem us_new (w0 w : World) (hm : Mod (fun _ => False) w0 w) : Calls Try.prog 18 #[.int .i64 3, .int .i64 1, .int .i64 2, .bool false] w fun e w' => ∃ u, e = .returned (.tuple #[.pointer (some ⟨u, 0, none⟩), .int .i64 0]) ∧ Us w0 w' u false false 0 0 1 none none none 0 := by
  refine (tNew_ok 3 1 2 false w rfl ⟨by omega, by omega⟩).mono ?_
  rintro e w' ⟨t, X, rfl, hT, hm2, hX⟩
  exact ⟨t, rfl, X, _, _, ⟨hm.and hm2, hT, ok0 false rfl ⟨by omega, by omega⟩, fun i hi => Nat.le_trans hm.size (hX i hi), rfl, rfl⟩, ⟨rfl, rfl, rfl, rfl, rfl, rfl⟩, rfl, rfl, rfl⟩
/-- A twin of three lanes, all well, that sends by turns. -/
structure Ts (w0 w : World) (t : Nat) (l N : Nat) : Prop where
  is : ∃ X a K, E1 w0 w t X a K N 3 ∧ (∀ j, a.f j = false) ∧ a.la = l
section
variable {w0 w : World} {t l N : Nat}
theorem Ts.m (h : Ts w0 w t l N) : Mod (fun _ => False) w0 w := by
  obtain ⟨X, a, K, hE, _⟩ := h.is
  exact hE.m
theorem Ts.keep {w' : World} (h : Ts w0 w t l N) (hm : Mod (fun _ => False) w w') : Ts w0 w' t l N := by
  obtain ⟨X, a, K, hE, r⟩ := h.is
  exact ⟨X, a, K, hE.keep hm, r⟩
theorem Ts.wrap (h : Ts w0 w t l N) (hN : N < 1000) : Calls Try.prog 21 #[.pointer (some ⟨t, 0, none⟩), .slice none 0 0] w fun e w' => ∃ v', e = .returned (.tuple #[v', .int .i64 ((2 ^ ((l + 1) % 3) : Nat) : Int), .int .i64 0]) ∧ Ts w0 w' t ((l + 1) % 3) (N + 1) := by
  obtain ⟨X, a, K, hE, hf, hl⟩ := h.is
  have hnx : a.nx = (l + 1) % 3 := by
    unfold Tn.nx nw
    rw [hE.sz, hl, hf]
    rfl
  have H := tWrap_ok hE.tt (N := N) (by omega) hE.ta (.slice none 0 0) [] ((Own.nil _).sl (by simp)) (by simp)
  rw [ov_eq hE.ac, hnx] at H
  refine H.mono ?_
  rintro e w' ⟨v', rfl, _, hT, hm, _⟩
  have hpx := hE.tt.px
  have we := wr_eq hE.ac
  have hsz : a.wrap.sz = 3 := by rw [we]; exact hE.sz
  have hac : a.wrap.ac = false := by rw [we]; exact hE.ac
  refine ⟨v', rfl, X, a.wrap, K, ⟨hE.m.andX hm (fun i e => by rw [e]; exact hE.xg t hpx), hT, hE.ta.wrap, hE.xg, hac, hsz⟩, fun j => ?_, ?_⟩
  · rw [we]; exact hf j
  · rw [we]; exact hnx
theorem Ts.long (h : Ts w0 w t l N) (hN : N < 1000) (v : Value) (B : List Int) (hs : Sl w v B) (hl : 512 < B.length) : Calls Try.prog 21 #[.pointer (some ⟨t, 0, none⟩), v] w fun e w' => e = .returned (.tuple #[.slice none 0 0, .int .i64 0, .int .i64 5]) ∧ Ts w0 w' t l N := by
  obtain ⟨X, a, K, hE, _⟩ := h.is
  refine (tWrap_long hE.tt (by omega) hE.ta v B hs hl).mono ?_
  rintro e w' ⟨rfl, hm⟩
  exact ⟨rfl, h.keep hm⟩
end
theorem ts_new (w0 w : World) (hm : Mod (fun _ => False) w0 w) : Calls Try.prog 18 #[.int .i64 3, .int .i64 1, .int .i64 3, .bool false] w fun e w' => ∃ u, e = .returned (.tuple #[.pointer (some ⟨u, 0, none⟩), .int .i64 0]) ∧ Ts w0 w' u 2 0 := by
  refine (tNew_ok 3 1 3 false w rfl ⟨by omega, by omega⟩).mono ?_
  rintro e w' ⟨t, X, rfl, hT, hm2, hX⟩
  exact ⟨t, rfl, X, _, _, ⟨hm.and hm2, hT, ok0 false rfl ⟨by omega, by omega⟩, fun i hi => Nat.le_trans hm.size (hX i hi), rfl, rfl⟩, fun _ => rfl, rfl⟩
/-- Slices that stay. -/
def SS (w : World) (L : List (Value × List Int)) : Prop := ∀ x ∈ L, Sl w x.1 x.2
theorem SS.keep {w w' : World} {L : List (Value × List Int)} (h : SS w L) (hm : Mod (fun _ => False) w w') : SS w' L := fun x hx => (h x hx).mod hm (fun _ _ h => h)
theorem SS.nil (w : World) : SS w [] := fun x hx => by simp at hx
theorem SS.app {w : World} {L : List (Value × List Int)} (h : SS w L) {v : Value} {l : List Int} (hs : Sl w v l) : SS w (L ++ [(v, l)]) := fun x hx => by
  rcases List.mem_append.1 hx with h1 | h1
  · exact h x h1
  · simp at h1; subst h1; exact hs
end Go.Proofs.Ytlkkbfcedjedoaa
