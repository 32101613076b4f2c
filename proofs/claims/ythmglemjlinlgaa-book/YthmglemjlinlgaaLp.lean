/- The program's lane: what New, isNone, isNode, check, add and Put answer, and what they leave. Conditions: a lane that New made; bytes of at most 2^47. -/
import Derived.Test.YthmglemjlinlgaaLn
import Derived.Deep.RegionHeld3
import Derived.Deep.RegionLaw
namespace Go.Proofs.Ythmglemjlinlgaa
open Go.RowKit
theorem infoDg : (Try.prog.info? 30).map (fun i => (i.zero, i.size, i.bytes)) = some (some (.agg #[.int .i64 0, .int .i64 0, .slice none 0 0]), 3, 40) := by kernel_rfl
/-- A lane of the program: what is on its way, its side, its blocks. -/
def La (w : World) (p : Nat) (L : List Dg) (s : Int) (F : Nat → Prop) : Prop := ∃ v R, Ln w p v R s ∧ R.map Prod.fst = L ∧ F = Fl p v R
theorem Mod.and {a b c : World} (h : Mod (fun _ => False) a b) (k : Mod (fun _ => False) b c) : Mod (fun _ => False) a c := h.trans k (fun _ _ h => h) (fun _ _ h => h)
/-- What a call may turn, and take. -/
def Gone (w w' : World) (F F' : Nat → Prop) : Prop := Mod F w w' ∧ ∀ k, F' k → F k ∨ w.heap.size ≤ k
theorem La.lt {w : World} {p : Nat} {L : List Dg} {s : Int} {F : Nat → Prop} (h : La w p L s F) {k : Nat} (hk : F k) : k < w.heap.size := by
  obtain ⟨v, R, h, _, rfl⟩ := h
  exact h.lt hk
theorem La.mod {S : Nat → Prop} {w w' : World} {p : Nat} {L : List Dg} {s : Int} {F : Nat → Prop} (h : La w p L s F) (hm : Mod S w w') (hS : ∀ k, F k → ¬ S k) : La w' p L s F := by
  obtain ⟨v, R, h, h2, rfl⟩ := h
  exact ⟨v, R, h.mod hm hS, h2, rfl⟩
theorem La.at {w : World} {p : Nat} {L : List Dg} {s : Int} {F : Nat → Prop} (h : La w p L s F) : F p := by
  obtain ⟨v, R, h, _, rfl⟩ := h
  exact .inl rfl
theorem New_any (w : World) : Calls Try.prog 7 #[] w fun e w' => ∃ p F, e = .returned (.pointer (some ⟨p, 0, none⟩)) ∧ La w' p [] 0 F ∧ Mod (fun _ => False) w w' ∧ ∀ k, F k → w.heap.size ≤ k := by
  go_enter Try.func7, Try.ntmps7
  go_wp2
  go_ret
  refine ⟨w.heap.size, _, rfl, ⟨_, [], ⟨heap_alloc_new w _, Gr.nil _⟩, rfl, rfl⟩, (Mod.refl _ w).alloc _, ?_⟩
  rintro k (rfl | h)
  · exact Nat.le_refl _
  · rcases h with h | ⟨u, hu, _⟩
    · simp [Value.ownBlock] at h
    · simp at hu
theorem isNone_c (p : Nat) (w : World) (c0 : w.cell? ⟨p, 0, none⟩ = some (.bool true)) : Calls Try.prog 29 #[.pointer (some ⟨p, 0, none⟩)] w fun e w' => e = .returned (.bool false) ∧ w' = w := by
  go_enter Try.func29, Try.ntmps29
  go_wp2
  go_ret
  exact ⟨rfl, rfl⟩
theorem isNone_zero (p : Nat) (w : World) (c0 : w.cell? ⟨p, 0, none⟩ = some (.bool false)) : Calls Try.prog 29 #[.pointer (some ⟨p, 0, none⟩)] w fun e w' => e = .returned (.bool true) ∧ w' = w := by
  go_enter Try.func29, Try.ntmps29
  go_wp2
  go_ret
  exact ⟨rfl, rfl⟩
theorem isNone_nil (w : World) : Calls Try.prog 29 #[.pointer none] w fun e w' => e = .returned (.bool true) ∧ w' = w := by
  go_enter Try.func29, Try.ntmps29
  go_wp2
  go_ret
  exact ⟨rfl, rfl⟩
/-- A node? -/
def nd (n : Int) : Bool := decide (1 ≤ n ∧ n ≤ 8)
theorem isNode (n : Int) (w : World) : Calls Try.prog 30 #[.int .i64 n] w fun e w' => e = .returned (.bool (nd n)) ∧ w' = w := by
  have hk : (nd n = false ∧ n < 1) ∨ (nd n = false ∧ ¬ n < 1 ∧ ¬ n ≤ 8) ∨ (nd n = true ∧ ¬ n < 1 ∧ n ≤ 8) := by
    unfold nd
    simp only [decide_eq_false_iff_not, decide_eq_true_eq]
    omega
  generalize nd n = E at hk
  rcases hk with ⟨rfl, h1⟩ | ⟨rfl, h1, h2⟩ | ⟨rfl, h1, h2⟩
  all_goals
    go_enter Try.func30, Try.ntmps30
    go_wp2
    go_ret
    refine ⟨?_, rfl⟩
    first | rfl | simp [h2]
/-- What check answers. -/
def kE (n : Nat) (i : Int) : Int := if i < 0 ∨ (n : Int) ≤ i then 9 else 0
theorem check_any (p : Nat) (v : Value) (R : List (Dg × Value)) (s i : Int) (w : World) (h : Ln w p v R s) : Calls Try.prog 33 #[.pointer (some ⟨p, 0, none⟩), .int .i64 i] w fun e w' => e = .returned (.int .i64 (kE R.length i)) ∧ w' = w := by
  have hN := isNone_c p w h.c0
  have c1 := h.c1
  obtain ⟨ao, cap, rfl, _⟩ := h.gr.shape
  have hk : (kE R.length i = 9 ∧ i < 0) ∨ (kE R.length i = 9 ∧ ¬ i < 0 ∧ (R.length : Int) ≤ i) ∨ (kE R.length i = 0 ∧ ¬ i < 0 ∧ ¬ (R.length : Int) ≤ i) := by
    unfold kE
    split <;> omega
  clear h
  generalize kE R.length i = E at hk
  generalize R.length = n at hk c1
  rcases hk with ⟨rfl, h1⟩ | ⟨rfl, h1, h2⟩ | ⟨rfl, h1, h2⟩
  all_goals
    go_enter Try.func33, Try.ntmps33
    go_wp2_with (go_at_call 29; refine hN.mono ?_; rintro e w' ⟨rfl, rfl⟩)
    go_ret
    exact ⟨rfl, rfl⟩
/-- Three cells that were just laid. -/
theorem app3 (w : World) (x y z : Value) (t : TypeId) : ∀ j u, [x, y, z][j]? = some u → (w.alloc (.cells #[x, y, z] t)).cell? ((⟨w.heap.size, 0, none⟩ : Addr).add j) = some u := by
  intro j u hj
  rw [add_at]
  match j, hj with
  | 0, hj => simp at hj; subst hj; simp
  | 1, hj => simp at hj; subst hj; simp
  | 2, hj => simp at hj; subst hj; simp
  | j + 3, hj => simp at hj
set_option maxRecDepth 100000 in
theorem add_full (p : Nat) (v : Value) (R : List (Dg × Value)) (s : Int) (a b : Int) (u : Value) (w : World) (h : Ln w p v R s) (hl : 4096 ≤ R.length) : Calls Try.prog 31 #[.pointer (some ⟨p, 0, none⟩), .agg #[.int .i64 a, .int .i64 b, u]] w fun e w' => e = .returned (.int .i64 7) ∧ Mod (fun _ => False) w w' := by
  have hm := (Mod.refl (fun _ => False) w).alloc (.cells #[.int .i64 a, .int .i64 b, u] 30)
  have c1 := (h.mod hm (fun _ _ h => h)).c1
  obtain ⟨ao, cap, rfl, _⟩ := h.gr.shape
  have hl' : 4096 ≤ (R.length : Int) := by omega
  clear h hl
  generalize R.length = n at hl' c1
  go_enter Try.func31, Try.ntmps31
  go_wp2
  go_ret
  exact ⟨rfl, hm⟩
set_option maxRecDepth 100000 in
set_option maxHeartbeats 1000000 in
theorem add_ok (p : Nat) (v : Value) (R : List (Dg × Value)) (s : Int) (d : Dg) (u : Value) (w : World) (h : Ln w p v R s) (hl : R.length < 4096) (hu : Sl w u d.b) (hb : d.b.length ≤ 140737488355328) :
    Calls Try.prog 31 #[.pointer (some ⟨p, 0, none⟩), .agg #[.int .i64 d.f, .int .i64 d.t, u]] w fun e w' => e = .returned (.int .i64 0) ∧ ∃ v2 u2, Ln w' p v2 (R ++ [(d, u2)]) s ∧ Gone w w' (Fl p v R) (Fl p v2 (R ++ [(d, u2)])) := by
  obtain ⟨i0, hi, hz0, hz1, hz2⟩ := info_parts infoDg
  have hm := (Mod.refl (fun _ => False) w).alloc (.cells #[.int .i64 d.f, .int .i64 d.t, u] 30)
  have hA := h.mod hm (fun _ _ h => h)
  have c1 := hA.c1
  have hus := hu.mod hm (fun _ _ h => h)
  have hC := clone_any u d.b _ hus hb
  have hr : Oct d.b := ⟨hu.rng, hb⟩
  have hbk := heap_alloc_new w (.cells #[.int .i64 d.f, .int .i64 d.t, u] 30)
  obtain ⟨ao, cap, rfl, _⟩ := h.gr.shape
  obtain ⟨f, t, b⟩ := d
  dsimp only at *
  have hsz : (w.alloc (.cells #[.int .i64 f, .int .i64 t, u] 30)).heap.size = w.heap.size + 1 := by simp
  have hlp := lt_of_block h.blk
  have hl' : ¬ 4096 ≤ (R.length : Int) := by omega
  go_enter Try.func31, Try.ntmps31
  go_wp2_with (fail)
  refine hC.mono ?_
  rintro e w1 ⟨u2, rfl, hu2, hm1, hn2⟩
  have hb1 := hm1.obj hbk (fun h => h)
  have b2 : w1.cell? ⟨w.heap.size, 2, none⟩ = some u := by simp [World.cell?, hb1]
  have z2 : w1.frozen? ⟨w.heap.size, 2, none⟩ = false := by simp [World.frozen?, hb1]
  have hM1 : Mod (fun _ => False) w w1 := hm.and hm1
  have hnw : ∀ g, u2.ownBlock = some g → w.heap.size + 1 ≤ g := fun g hg => by have := hn2 g hg; omega
  have hb2 : (w1.setCell ⟨w.heap.size, 2, none⟩ u2).heap[w.heap.size]? = some (.cells #[.int .i64 f, .int .i64 t, u2] 30 (0, 0)) := by simp [World.setCell, Array.getElem?_modify, hb1]
  have hM2 : Mod (fun _ => False) w (w1.setCell ⟨w.heap.size, 2, none⟩ u2) := hM1.setCell _ _ (.inr (Nat.le_refl _))
  have hu3 : Own (w1.setCell ⟨w.heap.size, 2, none⟩ u2) u2 b := hu2.mod ((Mod.refl (fun k => k = w.heap.size) w1).setCell _ _ (.inl rfl)) fun g hg e => by have := hnw g hg; omega
  obtain ⟨ao2, cap2, e2⟩ := hu2.shape
  subst e2
  clear hC hus hA hbk hu hm1 hn2 hu2
  go_wp2
  clear b2 z2 hb1 hM1
  generalize w1.setCell ⟨w.heap.size, 2, none⟩ (Value.slice ao2 b.length cap2) = W at hb2 hM2 hu3 ⊢
  have hB := h.mod hM2 (fun _ _ h => h)
  have q1 : W.cell? ⟨p, 1, none⟩ = some (.slice ao R.length cap) := hB.c1
  have d0 : W.cell? ⟨w.heap.size, 0, none⟩ = some (.int .i64 f) := by simp [World.cell?, hb2]
  have d1 : W.cell? ⟨w.heap.size, 1, none⟩ = some (.int .i64 t) := by simp [World.cell?, hb2]
  have d2 : W.cell? ⟨w.heap.size, 2, none⟩ = some (.slice ao2 b.length cap2) := by simp [World.cell?, hb2]
  have hal : ∀ o : Obj, (W.alloc o).drew.cell? ⟨p, 1, none⟩ = some (.slice ao R.length cap) ∧ (W.alloc o).drew.frozen? ⟨p, 1, none⟩ = false := fun o => by
    have hx := hB.mod (((Mod.refl (fun _ => False) W).alloc o).drew) (fun _ _ h => h)
    exact ⟨hx.c1, hx.f1 1⟩
  have hal1 : ∀ o : Obj, (W.alloc o).drew.cell? ⟨p, 1, none⟩ = some (.slice ao R.length cap) := fun o => (hal o).1
  have hgr : ∀ (o : Obj) (w1 : World), (W.alloc o).drew.grownBy w1 (Value.slice ao R.length cap).ownBlock → w1.cell? ⟨p, 1, none⟩ = some (.slice ao R.length cap) ∧ w1.frozen? ⟨p, 1, none⟩ = false := fun o w1 hg => by
    have hm1 : Mod (fun k => (Value.slice ao R.length cap).ownBlock = some k) W w1 := (((Mod.refl _ W).alloc o).drew).grown hg (fun k hk _ => hk)
    have hb := hm1.obj hB.blk (fun e => hB.far (.inl e))
    exact ⟨by simp [World.cell?, hb], by simp [World.frozen?, hb]⟩
  clear hal
  have hrow := fun o => owns_mod hB.gr.row (((Mod.refl (fun _ => False) W).alloc o).drew) (fun _ _ h => h)
  go_region_law ((refine step_append_lies _ (by rfl) _ _ 45 (by rfl) 0 30 i0 _ 3 40 Try.underlying45 hi hz0 hz1 hz2 rfl (by decide) (.slice ao R.length cap) R.length (cel R) (by rfl) (hrow _) ⟨W.heap.size, 0, none⟩ 1 1 [.int .i64 f, .int .i64 t, .slice ao2 b.length cap2] (by rfl) rfl (by exact app3 _ _ _ _ _) (by simp [Value.oneCell']) (by omega) (by simp only [maxLen]; omega) (by omega) (Nat.zero_le _) (W.heap.size + 1) (by simp) ?_; intro g cap1 w3 hown1 hgrow hg hlt; obtain ⟨hk1, hk2⟩ := hgr _ w3 hgrow))
  all_goals
    have hm3 : Mod (fun k => (Value.slice ao R.length cap).ownBlock = some k) W w3 := (((Mod.refl _ W).alloc _).drew).grown hgrow (fun k hk _ => hk)
    have hws := hM2.size
    have G := h.gr.app (d := ⟨f, t, b⟩) hM2 hu3 hr (fun g hg => by have := hnw g hg; omega) hown1 hm3 (fun g' hg' => by
      simp only [Value.ownBlock, Option.some.injEq] at hg'
      subst hg'
      rcases hg with h1 | h1
      · exact .inl h1
      · exact .inr (by omega))
    have T := h.store G.1 (G.2.1.mono fun k _ hk => .inl hk) G.2.2
    clear hk1 hk2 hgr hal1 hrow hown1 hgrow G
    go_wp2
    go_ret
    exact ⟨rfl, _, _, T.1, T.2.1, T.2.2⟩
/-- What Put answers, and leaves. -/
def aE (L : List Dg) : Int := if 4096 ≤ L.length then 7 else 0
def aL (L : List Dg) (d : Dg) : List Dg := if 4096 ≤ L.length then L else L ++ [d]
theorem Gone.none {w w' : World} {F : Nat → Prop} (h : Mod (fun _ => False) w w') : Gone w w' F F := ⟨h.none, fun _ hk => .inl hk⟩
theorem Gone.refl (w : World) (F : Nat → Prop) : Gone w w F F := ⟨Mod.refl _ _, fun _ hk => .inl hk⟩
theorem Gone.ahead {w w1 w' : World} {F F' : Nat → Prop} (h : Mod (fun _ => False) w w1) (g : Gone w1 w' F F') : Gone w w' F F' :=
  ⟨h.trans g.1 (fun _ _ h => h.elim) (fun _ _ h => h), fun k hk => by
    rcases g.2 k hk with h1 | h1
    · exact .inl h1
    · exact .inr (Nat.le_trans h.size h1)⟩
theorem add_any {p : Nat} {L : List Dg} {s : Int} {F : Nat → Prop} {d : Dg} {u : Value} {w : World} (h : La w p L s F) (hu : Sl w u d.b) (hb : d.b.length ≤ 140737488355328) :
    Calls Try.prog 31 #[.pointer (some ⟨p, 0, none⟩), .agg #[.int .i64 d.f, .int .i64 d.t, u]] w fun e w' => e = .returned (.int .i64 (aE L)) ∧ ∃ F', La w' p (aL L d) s F' ∧ Gone w w' F F' := by
  obtain ⟨v, R, h, rfl, rfl⟩ := h
  have hlen : (R.map Prod.fst).length = R.length := by simp
  unfold aE aL
  rw [hlen]
  by_cases hl : 4096 ≤ R.length
  · rw [if_pos hl, if_pos hl]
    refine (add_full p v R s _ _ u w h hl).mono ?_
    rintro e w' ⟨rfl, hm⟩
    exact ⟨rfl, _, ⟨v, R, h.mod hm (fun _ _ h => h), rfl, rfl⟩, Gone.none hm⟩
  · rw [if_neg hl, if_neg hl]
    refine (add_ok p v R s d u w h (by omega) hu hb).mono ?_
    rintro e w' ⟨rfl, v2, u2, hL, hG⟩
    exact ⟨rfl, _, ⟨v2, _, hL, by simp, rfl⟩, hG⟩
def pE (L : List Dg) (d : Dg) : Int := if nd d.f && nd d.t then aE L else 2
def pL (L : List Dg) (d : Dg) : List Dg := if nd d.f && nd d.t then aL L d else L
set_option maxRecDepth 100000 in
set_option maxHeartbeats 2000000 in
theorem Put_any {p : Nat} {L : List Dg} {s : Int} {F : Nat → Prop} {d : Dg} {u : Value} {w : World} (h : La w p L s F) (hu : Sl w u d.b) (hb : d.b.length ≤ 140737488355328) :
    Calls Try.prog 10 #[.pointer (some ⟨p, 0, none⟩), .agg #[.int .i64 d.f, .int .i64 d.t, u]] w fun e w' => e = .returned (.int .i64 (pE L d)) ∧ ∃ F', La w' p (pL L d) s F' ∧ Gone w w' F F' := by
  have hm := (Mod.refl (fun _ => False) w).alloc (.cells #[.int .i64 d.f, .int .i64 d.t, u] 30)
  have hbk := heap_alloc_new w (.cells #[.int .i64 d.f, .int .i64 d.t, u] 30)
  have hA := h.mod hm (fun _ _ h => h)
  have hN : Calls Try.prog 29 #[.pointer (some ⟨p, 0, none⟩)] (w.alloc (.cells #[.int .i64 d.f, .int .i64 d.t, u] 30)) fun e w' => e = .returned (.bool false) ∧ w' = w.alloc (.cells #[.int .i64 d.f, .int .i64 d.t, u] 30) := by
    obtain ⟨v, R, hA, _⟩ := hA
    exact isNone_c p _ hA.c0
  have hC := add_any hA (hu.mod hm (fun _ _ h => h)) hb
  have hX := isNode d.f
  have hY := isNode d.t
  unfold pE pL
  generalize aL L d = L2 at hC ⊢
  generalize aE L = E at hC ⊢
  obtain ⟨ao, cp, e, _⟩ := hu.form
  obtain ⟨f, t, b⟩ := d
  dsimp only at *
  subst e
  clear hu hb hbk hA
  generalize nd f = x at hX ⊢
  generalize nd t = y at hY ⊢
  have hL := h.mod hm (fun _ _ h => h)
  cases x with
  | false =>
    clear hC hY
    go_enter Try.func10, Try.ntmps10
    go_wp2_with (first | (go_at_call 29; refine hN.mono ?_; rintro e w' ⟨rfl, rfl⟩) | (go_at_call 30; refine (hX _).mono ?_; rintro e w' ⟨rfl, rfl⟩))
    go_ret
    exact ⟨rfl, F, hL, Gone.none hm⟩
  | true =>
    cases y with
    | false =>
      clear hC
      go_enter Try.func10, Try.ntmps10
      go_wp2_with (fail)
      refine hN.mono ?_
      rintro e w' ⟨rfl, rfl⟩
      go_wp2_with (fail)
      refine (hX _).mono ?_
      rintro e w' ⟨rfl, rfl⟩
      go_wp2_with (fail)
      refine (hY _).mono ?_
      rintro e w' ⟨rfl, rfl⟩
      go_wp2
      go_ret
      exact ⟨rfl, F, hL, Gone.none hm⟩
    | true =>
      go_enter Try.func10, Try.ntmps10
      go_wp2_with (fail)
      refine hN.mono ?_
      rintro e w' ⟨rfl, rfl⟩
      go_wp2_with (fail)
      refine (hX _).mono ?_
      rintro e w' ⟨rfl, rfl⟩
      go_wp2_with (fail)
      refine (hY _).mono ?_
      rintro e w' ⟨rfl, rfl⟩
      go_wp2_with (fail)
      refine hC.mono ?_
      rintro e w' ⟨rfl, F', hL', hG⟩
      go_wp2
      go_ret
      exact ⟨rfl, F', hL', hG.ahead hm⟩
theorem Len_any {p : Nat} {L : List Dg} {s : Int} {F : Nat → Prop} {w : World} (h : La w p L s F) : Calls Try.prog 22 #[.pointer (some ⟨p, 0, none⟩)] w fun e w' => e = .returned (.int .i64 (L.length : Int)) ∧ w' = w := by
  obtain ⟨v, R, h, rfl, rfl⟩ := h
  have hN := isNone_c p w h.c0
  have c1 := h.c1
  obtain ⟨ao, cap, rfl, _⟩ := h.gr.shape
  rw [show (R.map Prod.fst).length = R.length by simp]
  clear h
  generalize R.length = n at c1 ⊢
  go_enter Try.func22, Try.ntmps22
  go_wp2_with (go_at_call 29; refine hN.mono ?_; rintro e w' ⟨rfl, rfl⟩)
  go_ret
  exact ⟨rfl, rfl⟩
theorem Cut_any {p : Nat} {L : List Dg} {s : Int} {F : Nat → Prop} {w : World} (h : La w p L s F) (s2 : Int) : Calls Try.prog 20 #[.pointer (some ⟨p, 0, none⟩), .int .i64 s2] w fun e w' => e = .returned (.int .i64 0) ∧ La w' p L s2 F ∧ Mod F w w' := by
  obtain ⟨v, R, h, rfl, rfl⟩ := h
  have hN := isNone_c p w h.c0
  have c2 := h.c2
  have z2 := h.f1 2
  have hm : Mod (fun k => k = p) w (w.setCell ⟨p, 2, none⟩ (.int .i64 s2)) := (Mod.refl _ w).setCell _ _ (.inl rfl)
  have hL : Ln (w.setCell ⟨p, 2, none⟩ (.int .i64 s2)) p v R s2 := ⟨by simp [World.setCell, Array.getElem?_modify, h.blk], h.gr.mod hm fun k hk e => h.far (e ▸ hk)⟩
  clear h
  go_enter Try.func20, Try.ntmps20
  go_wp2_with (go_at_call 29; refine hN.mono ?_; rintro e w' ⟨rfl, rfl⟩)
  go_ret
  exact ⟨rfl, ⟨v, R, hL, rfl, rfl⟩, hm.mono fun k _ e => .inl e⟩
/-- Double: what is answered, and left. -/
def dE (L : List Dg) (i : Int) : Int := if i < 0 ∨ (L.length : Int) ≤ i then 9 else aE L
def dL (L : List Dg) (i : Int) : List Dg := if i < 0 ∨ (L.length : Int) ≤ i then L else aL L (L.getD i.toNat ⟨0, 0, []⟩)
theorem Ln.at {w : World} {p : Nat} {v : Value} {R : List (Dg × Value)} {s : Int} (h : Ln w p v R s) {i : Nat} (hi : i < R.length) : ∃ g cap x, v = .slice (some ⟨g, 0, none⟩) R.length cap ∧ R.length ≤ cap ∧ cap ≤ maxLen ∧ R[i]? = some x ∧ w.cell? ⟨g, i * 3, none⟩ = some (.int .i64 x.1.f) ∧ w.cell? ⟨g, i * 3 + 1, none⟩ = some (.int .i64 x.1.t) ∧ w.cell? ⟨g, i * 3 + 2, none⟩ = some x.2 ∧ Own w x.2 x.1.b ∧ Oct x.1.b := by
  obtain ⟨ao, cap, rfl, h1, h2, h3⟩ := h.gr.shape
  obtain ⟨g, rfl, hc⟩ := h3 (by omega)
  have hx : R[i]? = some R[i] := by simp [hi]
  obtain ⟨e0, e1, e2⟩ := cel_get R i _ hx
  obtain ⟨o1, o2⟩ := h.gr.own R[i] (List.mem_of_getElem? hx)
  exact ⟨g, cap, R[i], rfl, h1, h2, hx, hc _ _ e0, hc _ _ e1, hc _ _ e2, o1, o2⟩
end Go.Proofs.Ythmglemjlinlgaa
