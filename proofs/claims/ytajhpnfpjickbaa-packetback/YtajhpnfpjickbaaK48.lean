/- Contracts of packet's coder that reads: tokens, commits. Conditions: blocks apart. -/
import Derived.Test.YtajhpnfpjickbaaK47
namespace Go.Proofs.Ytajhpnfpjickbaa
open Go.RowKit
/-- What is wrong with a token that is read. -/
def tE (l : List Int) : Int := if rde 8 l ≠ 0 then rde 8 l else lE 16 1 (rdr 8 l)
/-- What is left when it was read into the cells from off on. -/
def TPost (q pr b off : Nat) (t : TypeId) (xs : Array Value) (v : Value) (l : List Int) (w w' : World) : Prop := Co w' q pr (tE l) ∧ Mod (fun k => k = pr ∨ k = q ∨ k = b) w w' ∧
  (tE l = 0 → ∃ xs' v', Rd w' pr v' (rdr (gN (rdr 8 l) * 1) (rdr 1 (rdr 8 l))) ∧ (∀ g, v'.ownBlock = some g → v.ownBlock = some g) ∧ Bk w' b t xs' ∧ xs'.size = xs.size ∧ (∀ k, (k < off ∨ off + 9 ≤ k) → xs'[k]? = xs[k]?) ∧ (∀ k, k < 8 → xs'[off + k]? = some (.int .i64 ((rdv 8 l).getD k 0))) ∧
    ∃ B2 ys, xs'[off + 8]? = some (.slice (some ⟨B2, 0, none⟩) (gN (rdr 8 l)) (gN (rdr 8 l))) ∧ w.heap.size ≤ B2 ∧ gN (rdr 8 l) ≤ 16 ∧ Bk w' B2 3 ys ∧ ys.size = gN (rdr 8 l) * 1 ∧ ∀ k, k < gN (rdr 8 l) * 1 → ys[k]? = some (.int .i64 ((rdv (gN (rdr 8 l) * 1) (rdr 1 (rdr 8 l))).getD k 0)))
set_option maxRecDepth 100000 in
set_option maxHeartbeats 2000000 in
theorem token_bad (q pr : Nat) (E : Int) (hE : E ≠ 0) (b off : Nat) (t : TypeId) (xs : Array Value) (ao : Option Addr) (cap : Nat) (w : World) (h : Co w q pr E) (hB : Bk w b t xs) (hl : xs[off + 8]? = some (.slice ao 0 cap)) (hq : b ≠ q) :
    Calls Try.prog 104 #[.pointer (some ⟨q, 0, none⟩), .pointer (some ⟨b, off, none⟩)] w fun e w' => e = .returned (.tuple #[]) ∧ Co w' q pr E ∧ Mod (fun k => k = b) w w' := by
  have H1 := ring_bad q pr E hE b off w h
  clear h
  go_enter Try.func104, Try.ntmps104
  go_wp2_with (fail)
  refine H1.mono ?_
  rintro e w1 ⟨rfl, h1, hm1⟩
  have hA : Mod (fun _ => False) w1 (w1.alloc (.cells #[.pointer (some ⟨b, off + 2, none⟩), .pointer (some ⟨b, off + 3, none⟩), .pointer (some ⟨b, off + 4, none⟩), .pointer (some ⟨b, off + 5, none⟩), .pointer (some ⟨b, off + 6, none⟩), .pointer (some ⟨b, off + 7, none⟩)] 131)).drew := ((Mod.refl _ w1).alloc _).drew
  have hC : (w1.alloc (.cells #[.pointer (some ⟨b, off + 2, none⟩), .pointer (some ⟨b, off + 3, none⟩), .pointer (some ⟨b, off + 4, none⟩), .pointer (some ⟨b, off + 5, none⟩), .pointer (some ⟨b, off + 6, none⟩), .pointer (some ⟨b, off + 7, none⟩)] 131)).drew.heap[w1.heap.size]? = some (.cells #[.pointer (some ⟨b, off + 2, none⟩), .pointer (some ⟨b, off + 3, none⟩), .pointer (some ⟨b, off + 4, none⟩), .pointer (some ⟨b, off + 5, none⟩), .pointer (some ⟨b, off + 6, none⟩), .pointer (some ⟨b, off + 7, none⟩)] 131 (0, 0)) := heap_alloc_new w1 (.cells #[.pointer (some ⟨b, off + 2, none⟩), .pointer (some ⟨b, off + 3, none⟩), .pointer (some ⟨b, off + 4, none⟩), .pointer (some ⟨b, off + 5, none⟩), .pointer (some ⟨b, off + 6, none⟩), .pointer (some ⟨b, off + 7, none⟩)] 131)
  have hD := h1.mod hA (fun h => h)
  have HN := numbers_bad q pr E hE w1.heap.size 6 6 _ hD (fun k hk => by
    unfold World.cell?
    dsimp only
    rw [hC]
    match k, hk with
    | 0, _ => exact ⟨_, rfl⟩
    | 1, _ => exact ⟨_, rfl⟩
    | 2, _ => exact ⟨_, rfl⟩
    | 3, _ => exact ⟨_, rfl⟩
    | 4, _ => exact ⟨_, rfl⟩
    | 5, _ => exact ⟨_, rfl⟩
    | k + 6, hk => omega) (by omega)
  clear hC
  clear H1
  go_wp2_with (fail)
  go_region_held3 (fun _ => True) (trivial) ((go_at_call 105; refine HN.mono ?_; rintro e w2 ⟨rfl, rfl⟩))
  have hm2 := hm1.trans hA (V := fun _ => False) (fun _ _ h => h) (fun _ _ h => h)
  have H3 := listI_bad q pr E hE b (off + 8) t xs ao cap _ hD (hB.mod hm2 (fun h => h)) hl hq
  clear HN
  go_wp2_with (fail)
  refine H3.mono ?_
  rintro e w3 ⟨rfl, h3, hm3⟩
  go_wp2
  go_end0
  exact ⟨rfl, h3, hm2.trans hm3 (fun _ _ h => h.elim) (fun _ _ h => h)⟩
set_option maxRecDepth 100000 in
set_option maxHeartbeats 2000000 in
theorem token_r (q pr b off : Nat) (t : TypeId) (xs : Array Value) (ao : Option Addr) (cap : Nat) (v : Value) (l : List Int) (w : World) (h : Co w q pr 0) (hr : Rd w pr v l) (hB : Bk w b t xs) (hof : off + 9 ≤ xs.size) (hx : ∀ k, k < 8 → ∃ x, xs[off + k]? = some (.int .i64 x)) (hl : xs[off + 8]? = some (.slice ao 0 cap)) (hn : q ≠ pr ∧ b ≠ pr ∧ b ≠ q) (hv : ∀ g, v.ownBlock = some g → g < w.heap.size ∧ g ≠ q ∧ g ≠ b) :
    Calls Try.prog 104 #[.pointer (some ⟨q, 0, none⟩), .pointer (some ⟨b, off, none⟩)] w fun e w' => e = .returned (.tuple #[]) ∧ TPost q pr b off t xs v l w w' := by
  have hv2 : v.ownBlock ≠ some q ∧ v.ownBlock ≠ some b := ⟨fun e => (hv q e).2.1 rfl, fun e => (hv b e).2.2 rfl⟩
  have h0 : Nst w q pr b t xs off 8 v l 0 xs v l [] 0 w := Nst.start h hr hB
  have H1 := ring_c w q pr b t xs off 8 v l 0 _ _ _ _ _ _ h0 (by omega) (by omega) hx hn hv2
  clear h hr hB h0
  go_enter Try.func104, Try.ntmps104
  go_wp2_with (fail)
  refine H1.mono ?_
  rintro e w1 ⟨rfl, xs1, v1, l1, d1, E1, h1⟩
  have hA : Mod (fun _ => False) w1 (w1.alloc (.cells #[.pointer (some ⟨b, off + 2, none⟩), .pointer (some ⟨b, off + 3, none⟩), .pointer (some ⟨b, off + 4, none⟩), .pointer (some ⟨b, off + 5, none⟩), .pointer (some ⟨b, off + 6, none⟩), .pointer (some ⟨b, off + 7, none⟩)] 131)).drew := ((Mod.refl _ w1).alloc _).drew
  have hC : (w1.alloc (.cells #[.pointer (some ⟨b, off + 2, none⟩), .pointer (some ⟨b, off + 3, none⟩), .pointer (some ⟨b, off + 4, none⟩), .pointer (some ⟨b, off + 5, none⟩), .pointer (some ⟨b, off + 6, none⟩), .pointer (some ⟨b, off + 7, none⟩)] 131)).drew.heap[w1.heap.size]? = some (.cells #[.pointer (some ⟨b, off + 2, none⟩), .pointer (some ⟨b, off + 3, none⟩), .pointer (some ⟨b, off + 4, none⟩), .pointer (some ⟨b, off + 5, none⟩), .pointer (some ⟨b, off + 6, none⟩), .pointer (some ⟨b, off + 7, none⟩)] 131 (0, 0)) := heap_alloc_new w1 (.cells #[.pointer (some ⟨b, off + 2, none⟩), .pointer (some ⟨b, off + 3, none⟩), .pointer (some ⟨b, off + 4, none⟩), .pointer (some ⟨b, off + 5, none⟩), .pointer (some ⟨b, off + 6, none⟩), .pointer (some ⟨b, off + 7, none⟩)] 131)
  have hN := h1.world hA
  have hz : q < w1.heap.size ∧ pr < w1.heap.size ∧ b < w1.heap.size := ⟨lt_of_block h1.co.blk, lt_of_block h1.rd.blk, h1.bk.lt⟩
  have HN := numbers_c 6 w1.heap.size 6 w q pr b t xs off 8 v l (0 + 2) _ _ _ _ _ _ hN (by omega) (by omega) hx hn hv2 (fun k hk => by
    unfold World.cell?
    dsimp only
    rw [hC]
    match k, hk with
    | 0, _ => rfl
    | 1, _ => rfl
    | 2, _ => rfl
    | 3, _ => rfl
    | 4, _ => rfl
    | 5, _ => rfl
    | k + 6, hk => omega) ⟨by omega, by omega, by omega⟩ (by omega)
  clear hC
  clear h1 hN hx H1
  go_wp2_with (fail)
  go_region_held3 (fun _ => True) (trivial) ((go_at_call 105; refine HN.mono ?_; rintro e w2 ⟨rfl, xs2, v2, l2, d2, E2, h2⟩))
  obtain ⟨dE', dR⟩ := Nst.done h2
  have hg2 : ∀ g, v2.ownBlock = some g → g < w2.heap.size ∧ g ≠ q ∧ g ≠ b := fun g hg => by
    have := hv g (h2.own g hg)
    have := h2.mod.size
    omega
  have hl2 : xs2[off + 8]? = some (.slice ao 0 cap) := by rw [h2.out (off + 8) (by omega)]; exact hl
  by_cases hE : E2 = 0
  · subst hE
    have H3 := listI_r q pr b (off + 8) t xs2 ao cap v2 l2 w2 h2.co h2.rd h2.bk hl2 hn hg2
    obtain ⟨q1, q2⟩ := dR rfl
    have eD : tE l = lE 16 1 l2 := by rw [tE, if_neg (by simp [← dE']), q1]
    clear HN
    go_wp2_with (fail)
    refine H3.mono ?_
    rintro e w3 ⟨rfl, hP⟩
    go_wp2
    go_end0
    unfold LPost at hP
    obtain ⟨E, hdr, v3, l3, m1, m2, m3, m4, m5, m6, m7⟩ := hP
    subst m2
    refine ⟨rfl, by rw [eD]; exact m1, h2.mod.trans m6 (fun _ _ h => h) (fun _ _ h => h), fun e0 => ?_⟩
    rw [eD] at e0
    obtain ⟨n1, B2, ys, rfl, n3, n4, n5, n6, n7⟩ := m7 e0
    subst n1
    rw [← q1]
    refine ⟨_, v3, m3, fun g hg => h2.own g (m4 g hg), m5, by rw [Array.size_setIfInBounds, h2.size], fun k hk => ?_, fun k hk => ?_, B2, ys, ?_, by have := h2.mod.size; omega, n4, n5, n6, n7⟩
    · rw [Array.getElem?_setIfInBounds_ne (by omega)]
      exact h2.out k (by omega)
    · rw [Array.getElem?_setIfInBounds_ne (by omega)]
      exact q2 k hk
    · rw [Array.getElem?_setIfInBounds_self_of_lt (by rw [h2.size]; omega)]
  · have H3 := listI_bad q pr E2 hE b (off + 8) t xs2 ao cap w2 h2.co h2.bk hl2 hn.2.2
    have eD : tE l = E2 := by rw [tE, if_pos (by rw [← dE']; exact hE), dE']
    clear HN
    go_wp2_with (fail)
    refine H3.mono ?_
    rintro e w3 ⟨rfl, h3, hm3⟩
    go_wp2
    go_end0
    exact ⟨rfl, by rw [eD]; exact h3, h2.mod.trans hm3 (fun _ _ h => h) (fun _ _ h => .inr (.inr h)), fun e0 => absurd (eD ▸ e0) hE⟩
/-- What is wrong with a commit that is read. -/
def cE (l : List Int) : Int := if rde 4 l ≠ 0 then rde 4 l else lE 8 6 (rdr 4 l)
/-- What is left when it was read into the cells from off on. -/
def CPost (q pr b off : Nat) (t : TypeId) (xs : Array Value) (v : Value) (l : List Int) (w w' : World) : Prop := Co w' q pr (cE l) ∧ Mod (fun k => k = pr ∨ k = q ∨ k = b) w w' ∧
  (cE l = 0 → ∃ xs' v', Rd w' pr v' (rdr (gN (rdr 4 l) * 6) (rdr 1 (rdr 4 l))) ∧ (∀ g, v'.ownBlock = some g → v.ownBlock = some g) ∧ Bk w' b t xs' ∧ xs'.size = xs.size ∧ (∀ k, (k < off ∨ off + 5 ≤ k) → xs'[k]? = xs[k]?) ∧ (∀ k, k < 4 → xs'[off + k]? = some (.int .i64 ((rdv 4 l).getD k 0))) ∧
    ∃ B2 ys, xs'[off + 4]? = some (.slice (some ⟨B2, 0, none⟩) (gN (rdr 4 l)) (gN (rdr 4 l))) ∧ w.heap.size ≤ B2 ∧ gN (rdr 4 l) ≤ 8 ∧ Bk w' B2 167 ys ∧ ys.size = gN (rdr 4 l) * 6 ∧ ∀ k, k < gN (rdr 4 l) * 6 → ys[k]? = some (.int .i64 ((rdv (gN (rdr 4 l) * 6) (rdr 1 (rdr 4 l))).getD k 0)))
set_option maxRecDepth 100000 in
set_option maxHeartbeats 2000000 in
theorem commit_bad (q pr : Nat) (E : Int) (hE : E ≠ 0) (b off : Nat) (t : TypeId) (xs : Array Value) (ao : Option Addr) (cap : Nat) (w : World) (h : Co w q pr E) (hB : Bk w b t xs) (hl : xs[off + 4]? = some (.slice ao 0 cap)) (hq : b ≠ q) :
    Calls Try.prog 106 #[.pointer (some ⟨q, 0, none⟩), .pointer (some ⟨b, off, none⟩)] w fun e w' => e = .returned (.tuple #[]) ∧ Co w' q pr E ∧ Mod (fun k => k = b) w w' := by
  have H1 := ring_bad q pr E hE b off w h
  clear h
  go_enter Try.func106, Try.ntmps106
  go_wp2_with (fail)
  refine H1.mono ?_
  rintro e w1 ⟨rfl, h1, hm1⟩
  have hA : Mod (fun _ => False) w1 (w1.alloc (.cells #[.pointer (some ⟨b, off + 2, none⟩), .pointer (some ⟨b, off + 3, none⟩)] 131)).drew := ((Mod.refl _ w1).alloc _).drew
  have hC : (w1.alloc (.cells #[.pointer (some ⟨b, off + 2, none⟩), .pointer (some ⟨b, off + 3, none⟩)] 131)).drew.heap[w1.heap.size]? = some (.cells #[.pointer (some ⟨b, off + 2, none⟩), .pointer (some ⟨b, off + 3, none⟩)] 131 (0, 0)) := heap_alloc_new w1 (.cells #[.pointer (some ⟨b, off + 2, none⟩), .pointer (some ⟨b, off + 3, none⟩)] 131)
  have hD := h1.mod hA (fun h => h)
  have HN := numbers_bad q pr E hE w1.heap.size 2 2 _ hD (fun k hk => by
    unfold World.cell?
    dsimp only
    rw [hC]
    match k, hk with
    | 0, _ => exact ⟨_, rfl⟩
    | 1, _ => exact ⟨_, rfl⟩
    | k + 2, hk => omega) (by omega)
  clear hC
  clear H1
  go_wp2_with (fail)
  go_region_held3 (fun _ => True) (trivial) ((go_at_call 105; refine HN.mono ?_; rintro e w2 ⟨rfl, rfl⟩))
  have hm2 := hm1.trans hA (V := fun _ => False) (fun _ _ h => h) (fun _ _ h => h)
  have H3 := listE_bad q pr E hE b (off + 4) t xs ao cap _ hD (hB.mod hm2 (fun h => h)) hl hq
  clear HN
  go_wp2_with (fail)
  refine H3.mono ?_
  rintro e w3 ⟨rfl, h3, hm3⟩
  go_wp2
  go_end0
  exact ⟨rfl, h3, hm2.trans hm3 (fun _ _ h => h.elim) (fun _ _ h => h)⟩
set_option maxRecDepth 100000 in
set_option maxHeartbeats 2000000 in
theorem commit_r (q pr b off : Nat) (t : TypeId) (xs : Array Value) (ao : Option Addr) (cap : Nat) (v : Value) (l : List Int) (w : World) (h : Co w q pr 0) (hr : Rd w pr v l) (hB : Bk w b t xs) (hof : off + 5 ≤ xs.size) (hx : ∀ k, k < 4 → ∃ x, xs[off + k]? = some (.int .i64 x)) (hl : xs[off + 4]? = some (.slice ao 0 cap)) (hn : q ≠ pr ∧ b ≠ pr ∧ b ≠ q) (hv : ∀ g, v.ownBlock = some g → g < w.heap.size ∧ g ≠ q ∧ g ≠ b) :
    Calls Try.prog 106 #[.pointer (some ⟨q, 0, none⟩), .pointer (some ⟨b, off, none⟩)] w fun e w' => e = .returned (.tuple #[]) ∧ CPost q pr b off t xs v l w w' := by
  have hv2 : v.ownBlock ≠ some q ∧ v.ownBlock ≠ some b := ⟨fun e => (hv q e).2.1 rfl, fun e => (hv b e).2.2 rfl⟩
  have h0 : Nst w q pr b t xs off 4 v l 0 xs v l [] 0 w := Nst.start h hr hB
  have H1 := ring_c w q pr b t xs off 4 v l 0 _ _ _ _ _ _ h0 (by omega) (by omega) hx hn hv2
  clear h hr hB h0
  go_enter Try.func106, Try.ntmps106
  go_wp2_with (fail)
  refine H1.mono ?_
  rintro e w1 ⟨rfl, xs1, v1, l1, d1, E1, h1⟩
  have hA : Mod (fun _ => False) w1 (w1.alloc (.cells #[.pointer (some ⟨b, off + 2, none⟩), .pointer (some ⟨b, off + 3, none⟩)] 131)).drew := ((Mod.refl _ w1).alloc _).drew
  have hC : (w1.alloc (.cells #[.pointer (some ⟨b, off + 2, none⟩), .pointer (some ⟨b, off + 3, none⟩)] 131)).drew.heap[w1.heap.size]? = some (.cells #[.pointer (some ⟨b, off + 2, none⟩), .pointer (some ⟨b, off + 3, none⟩)] 131 (0, 0)) := heap_alloc_new w1 (.cells #[.pointer (some ⟨b, off + 2, none⟩), .pointer (some ⟨b, off + 3, none⟩)] 131)
  have hN := h1.world hA
  have hz : q < w1.heap.size ∧ pr < w1.heap.size ∧ b < w1.heap.size := ⟨lt_of_block h1.co.blk, lt_of_block h1.rd.blk, h1.bk.lt⟩
  have HN := numbers_c 2 w1.heap.size 2 w q pr b t xs off 4 v l (0 + 2) _ _ _ _ _ _ hN (by omega) (by omega) hx hn hv2 (fun k hk => by
    unfold World.cell?
    dsimp only
    rw [hC]
    match k, hk with
    | 0, _ => rfl
    | 1, _ => rfl
    | k + 2, hk => omega) ⟨by omega, by omega, by omega⟩ (by omega)
  clear hC
  clear h1 hN hx H1
  go_wp2_with (fail)
  go_region_held3 (fun _ => True) (trivial) ((go_at_call 105; refine HN.mono ?_; rintro e w2 ⟨rfl, xs2, v2, l2, d2, E2, h2⟩))
  obtain ⟨dE', dR⟩ := Nst.done h2
  have hg2 : ∀ g, v2.ownBlock = some g → g < w2.heap.size ∧ g ≠ q ∧ g ≠ b := fun g hg => by
    have := hv g (h2.own g hg)
    have := h2.mod.size
    omega
  have hl2 : xs2[off + 4]? = some (.slice ao 0 cap) := by rw [h2.out (off + 4) (by omega)]; exact hl
  by_cases hE : E2 = 0
  · subst hE
    have H3 := listE_r q pr b (off + 4) t xs2 ao cap v2 l2 w2 h2.co h2.rd h2.bk hl2 hn hg2
    obtain ⟨q1, q2⟩ := dR rfl
    have eD : cE l = lE 8 6 l2 := by rw [cE, if_neg (by simp [← dE']), q1]
    clear HN
    go_wp2_with (fail)
    refine H3.mono ?_
    rintro e w3 ⟨rfl, hP⟩
    go_wp2
    go_end0
    unfold LPost at hP
    obtain ⟨E, hdr, v3, l3, m1, m2, m3, m4, m5, m6, m7⟩ := hP
    subst m2
    refine ⟨rfl, by rw [eD]; exact m1, h2.mod.trans m6 (fun _ _ h => h) (fun _ _ h => h), fun e0 => ?_⟩
    rw [eD] at e0
    obtain ⟨n1, B2, ys, rfl, n3, n4, n5, n6, n7⟩ := m7 e0
    subst n1
    rw [← q1]
    refine ⟨_, v3, m3, fun g hg => h2.own g (m4 g hg), m5, by rw [Array.size_setIfInBounds, h2.size], fun k hk => ?_, fun k hk => ?_, B2, ys, ?_, by have := h2.mod.size; omega, n4, n5, n6, n7⟩
    · rw [Array.getElem?_setIfInBounds_ne (by omega)]
      exact h2.out k (by omega)
    · rw [Array.getElem?_setIfInBounds_ne (by omega)]
      exact q2 k hk
    · rw [Array.getElem?_setIfInBounds_self_of_lt (by rw [h2.size]; omega)]
  · have H3 := listE_bad q pr E2 hE b (off + 4) t xs2 ao cap w2 h2.co h2.bk hl2 hn.2.2
    have eD : cE l = E2 := by rw [cE, if_pos (by rw [← dE']; exact hE), dE']
    clear HN
    go_wp2_with (fail)
    refine H3.mono ?_
    rintro e w3 ⟨rfl, h3, hm3⟩
    go_wp2
    go_end0
    exact ⟨rfl, by rw [eD]; exact h3, h2.mod.trans hm3 (fun _ _ h => h) (fun _ _ h => .inr (.inr h)), fun e0 => absurd (eD ▸ e0) hE⟩
end Go.Proofs.Ytajhpnfpjickbaa
