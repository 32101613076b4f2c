/- Contract of packet's coder that reads: a packet, kind by kind, and any. Conditions: blocks apart; bytes of at most 2^47. -/
import Derived.Test.YtajhpnfpjickbaaK49
import Derived.Test.YtajhpnfpjickbaaK50
namespace Go.Proofs.Ytajhpnfpjickbaa
open Go.RowKit
theorem prd_all (l l1 l2 : List Int) (K : Int) (hE : (num 0 0 l).2.2 = 0) (hl1 : l.drop (num 0 0 l).2.1.toNat = l1) (hK : (num 0 0 l).1 = K) (hk : 1 ≤ K ∧ K ≤ 5) (hE1 : (num 0 0 l1).2.2 = 0) (hl2 : l1.drop (num 0 0 l1).2.1.toNat = l2) : prd l = Go.Proofs.Ytajhpnfpjickbaa.kE K l2 ∧ prP l = kP K (num 0 0 l1).1 l2 ∧ prL l = kR K l2 := by
  have e1 : rde 1 l = 0 := by rw [(rd1 l).1]; exact hE
  have e2 : rdr 1 l = l1 := by rw [((rd1 l).2 hE).2]; exact hl1
  have e3 : pK l = K := by rw [pK, rd1v l hE]; exact hK
  have e4 : rde 1 (rdr 1 l) = 0 := by rw [e2, (rd1 l1).1]; exact hE1
  have e5 : rdr 1 (rdr 1 l) = l2 := by rw [e2, ((rd1 l1).2 hE1).2]; exact hl2
  have e6 : pT l = (num 0 0 l1).1 := by rw [pT, e2, rd1v l1 hE1]
  refine ⟨?_, ?_, ?_⟩
  · rw [(prd_way l).2.2.2 e1 (by rw [e3]; exact hk) e4, e3, e5]
  · rw [prP, e3, e6, e5]
  · rw [prL, e3, e5]
set_option maxRecDepth 100000 in
set_option maxHeartbeats 2000000 in
theorem packet_r1 (q pr b : Nat) (v : Value) (l l1 : List Int) (w : World) (h : Co w q pr 0) (hr : Rd w pr v l) (hB : Bk w b 76 pz) (hn : q ≠ pr ∧ b ≠ pr ∧ b ≠ q) (hv : ∀ g, v.ownBlock = some g → g < w.heap.size ∧ g ≠ q ∧ g ≠ b) (hE : (num 0 0 l).2.2 = 0) (hl1 : l.drop (num 0 0 l).2.1.toNat = l1) (hK : (num 0 0 l).1 = 1) (l2 : List Int) (hE1 : (num 0 0 l1).2.2 = 0) (hl2 : l1.drop (num 0 0 l1).2.1.toNat = l2) (hb : l.length ≤ 140737488355328) :
    Calls Try.prog 73 #[.pointer (some ⟨q, 0, none⟩), .pointer (some ⟨b, 0, none⟩)] w fun e w' => e = .returned (.tuple #[]) ∧ KPost q pr b v l w w' := by
  obtain ⟨p1, p2, p3⟩ := prd_all l l1 l2 1 hE hl1 hK (by decide) hE1 hl2
  have P1 : Hid (prd l = Go.Proofs.Ytajhpnfpjickbaa.kE 1 l2) := p1
  have P2 : Hid (prP l = kP 1 (num 0 0 l1).1 l2) := p2
  have P3 : Hid (prL l = kR 1 l2) := p3
  have hlen : l2.length ≤ l.length := by rw [← hl2, ← hl1, List.length_drop, List.length_drop]; omega
  have hrl : ∀ c ∈ l2, 0 ≤ c ∧ c ≤ 255 := fun c hc => hr.sl.rng c (by rw [← hl2, ← hl1] at hc; exact List.mem_of_mem_drop (List.mem_of_mem_drop hc))
  clear p1 p2 p3
  have H1 := number_n q pr b 0 76 pz 0 v l w h hr hB rfl hn hv
  have HK := isKind_any 1
  rw [show decide ((1 : Int) ≤ 1 ∧ (1 : Int) ≤ 5) = true from by decide] at HK
  rw [hE, hK, hl1] at H1
  clear h hr hB hE hK hl1
  go_enter Try.func73, Try.ntmps73
  go_wp2_with (fail)
  refine H1.mono ?_
  rintro e w1 ⟨rfl, v1, h1, hr1, ho1, hB1, hm1⟩
  have k0 := hB1.cellv (j := 0) (v := .int .i64 1) rfl
  clear H1
  go_wp2_with (fail)
  refine (HK _).mono ?_
  rintro e w2 ⟨rfl, hm2⟩
  have h2 := h1.mod hm2 (fun h => h)
  have hr2 := hr1.mod hm2 (fun h => h) (fun _ _ h => h)
  have hB2 := hB1.mod hm2 (fun h => h)
  have hv1 : ∀ g, v1.ownBlock = some g → g < w2.heap.size ∧ g ≠ q ∧ g ≠ b := fun g hg => by
    have := hv g (ho1 g hg)
    have := hm1.size
    have := hm2.size
    omega
  have H2 := number_n q pr b 1 76 _ 0 v1 l1 w2 h2 hr2 hB2 rfl hn hv1
  clear HK k0 h1 hr1 hB1
  go_wp2_with (fail)
  refine H2.mono ?_
  rintro e w3 ⟨rfl, v3, h3, hr3, ho3, hB3, hm3⟩
  have k3 := hB3.cellv (j := 0) (v := .int .i64 1) rfl
  have hM3 : Mod (fun k => k = pr ∨ k = q ∨ k = b) w w3 := (hm1.trans hm2 (V := fun k => k = pr ∨ k = q ∨ k = b) (fun _ _ h => h) (fun _ _ h => h.elim)).trans hm3 (fun _ _ h => h) (fun _ _ h => h)
  clear H2 h2 hr2 hB2 hm1 hm2 hm3
  rw [hE1] at h3
  rw [hl2] at hr3
  have hs3 := hM3.size
  have hv3 : ∀ g, v3.ownBlock = some g → g < w3.heap.size ∧ g ≠ q ∧ g ≠ b := fun g hg => by
    have := hv g (ho1 g (ho3 g hg))
    omega
  clear hE1 hl2
  generalize (num 0 0 l1).1 = N1 at *
  have H := data_r q pr b 2 76 _ v3 l2 w3 h3 hr3 hB3 (by show 20 ≤ 40; omega) (fun k hk => by
    match k, hk with
    | 0, _ => exact ⟨0, rfl⟩
    | 1, _ => exact ⟨0, rfl⟩
    | 2, _ => exact ⟨0, rfl⟩
    | 3, _ => exact ⟨0, rfl⟩
    | 4, _ => exact ⟨0, rfl⟩
    | k + 5, hk => omega) (by omega) hn hv3
  clear h3 hr3 hB3
  go_wp2_with (fail)
  refine H.mono ?_
  rintro e w4 ⟨rfl, hD⟩
  clear H
  go_wp2
  go_end0
  unfold DPost at hD
  obtain ⟨xs', v4, l4, m1, m2, m3, m4, m5, m6⟩ := hD
  have P1' : prd l = dE l2 := P1.out
  refine ⟨rfl, by rw [P1']; exact m1, hM3.trans m5 (fun _ _ h => h) (fun _ _ h => h), fun e0 => ?_⟩
  obtain ⟨n1, n2, n3, n4, k, o, lf, i, p, ps, g, s, st, rs, rr, sq, bv, n5, n6, n7, n8⟩ := m6 (by rw [← P1']; exact e0)
  rw [P2.out, P3.out]
  refine ⟨xs', v4, by subst n1; exact m2, fun g hg => ho1 g (ho3 g (m3 g hg)), m4, pkin1 n2 n3 n4 n5 n6 n7 (fun g hg => by have := n8 g hg; omega) (fun c hc => hrl c ?_)⟩
  exact rdr_mem 5 l2 c (List.mem_of_mem_drop (List.mem_of_mem_take (pr_mem _ c hc)))
set_option maxRecDepth 100000 in
set_option maxHeartbeats 2000000 in
theorem packet_r2 (q pr b : Nat) (v : Value) (l l1 : List Int) (w : World) (h : Co w q pr 0) (hr : Rd w pr v l) (hB : Bk w b 76 pz) (hn : q ≠ pr ∧ b ≠ pr ∧ b ≠ q) (hv : ∀ g, v.ownBlock = some g → g < w.heap.size ∧ g ≠ q ∧ g ≠ b) (hE : (num 0 0 l).2.2 = 0) (hl1 : l.drop (num 0 0 l).2.1.toNat = l1) (hK : (num 0 0 l).1 = 2) (l2 : List Int) (hE1 : (num 0 0 l1).2.2 = 0) (hl2 : l1.drop (num 0 0 l1).2.1.toNat = l2) (hb : l.length ≤ 140737488355328) :
    Calls Try.prog 73 #[.pointer (some ⟨q, 0, none⟩), .pointer (some ⟨b, 0, none⟩)] w fun e w' => e = .returned (.tuple #[]) ∧ KPost q pr b v l w w' := by
  obtain ⟨p1, p2, p3⟩ := prd_all l l1 l2 2 hE hl1 hK (by decide) hE1 hl2
  have P1 : Hid (prd l = Go.Proofs.Ytajhpnfpjickbaa.kE 2 l2) := p1
  have P2 : Hid (prP l = kP 2 (num 0 0 l1).1 l2) := p2
  have P3 : Hid (prL l = kR 2 l2) := p3
  have hlen : l2.length ≤ l.length := by rw [← hl2, ← hl1, List.length_drop, List.length_drop]; omega
  have hrl : ∀ c ∈ l2, 0 ≤ c ∧ c ≤ 255 := fun c hc => hr.sl.rng c (by rw [← hl2, ← hl1] at hc; exact List.mem_of_mem_drop (List.mem_of_mem_drop hc))
  clear p1 p2 p3
  have H1 := number_n q pr b 0 76 pz 0 v l w h hr hB rfl hn hv
  have HK := isKind_any 2
  rw [show decide ((1 : Int) ≤ 2 ∧ (2 : Int) ≤ 5) = true from by decide] at HK
  rw [hE, hK, hl1] at H1
  clear h hr hB hE hK hl1
  go_enter Try.func73, Try.ntmps73
  go_wp2_with (fail)
  refine H1.mono ?_
  rintro e w1 ⟨rfl, v1, h1, hr1, ho1, hB1, hm1⟩
  have k0 := hB1.cellv (j := 0) (v := .int .i64 2) rfl
  clear H1
  go_wp2_with (fail)
  refine (HK _).mono ?_
  rintro e w2 ⟨rfl, hm2⟩
  have h2 := h1.mod hm2 (fun h => h)
  have hr2 := hr1.mod hm2 (fun h => h) (fun _ _ h => h)
  have hB2 := hB1.mod hm2 (fun h => h)
  have hv1 : ∀ g, v1.ownBlock = some g → g < w2.heap.size ∧ g ≠ q ∧ g ≠ b := fun g hg => by
    have := hv g (ho1 g hg)
    have := hm1.size
    have := hm2.size
    omega
  have H2 := number_n q pr b 1 76 _ 0 v1 l1 w2 h2 hr2 hB2 rfl hn hv1
  clear HK k0 h1 hr1 hB1
  go_wp2_with (fail)
  refine H2.mono ?_
  rintro e w3 ⟨rfl, v3, h3, hr3, ho3, hB3, hm3⟩
  have k3 := hB3.cellv (j := 0) (v := .int .i64 2) rfl
  have hM3 : Mod (fun k => k = pr ∨ k = q ∨ k = b) w w3 := (hm1.trans hm2 (V := fun k => k = pr ∨ k = q ∨ k = b) (fun _ _ h => h) (fun _ _ h => h.elim)).trans hm3 (fun _ _ h => h) (fun _ _ h => h)
  clear H2 h2 hr2 hB2 hm1 hm2 hm3
  rw [hE1] at h3
  rw [hl2] at hr3
  have hs3 := hM3.size
  have hv3 : ∀ g, v3.ownBlock = some g → g < w3.heap.size ∧ g ≠ q ∧ g ≠ b := fun g hg => by
    have := hv g (ho1 g (ho3 g hg))
    omega
  clear hE1 hl2
  generalize (num 0 0 l1).1 = N1 at *
  have H := token_r q pr b 20 76 _ none 0 v3 l2 w3 h3 hr3 hB3 (by show 29 ≤ 40; omega) (fun k hk => by
    match k, hk with
    | 0, _ => exact ⟨0, rfl⟩
    | 1, _ => exact ⟨0, rfl⟩
    | 2, _ => exact ⟨0, rfl⟩
    | 3, _ => exact ⟨0, rfl⟩
    | 4, _ => exact ⟨0, rfl⟩
    | 5, _ => exact ⟨0, rfl⟩
    | 6, _ => exact ⟨0, rfl⟩
    | 7, _ => exact ⟨0, rfl⟩
    | k + 8, hk => omega) rfl hn hv3
  clear h3 hr3 hB3
  go_wp2_with (fail)
  refine H.mono ?_
  rintro e w4 ⟨rfl, hD⟩
  clear H
  go_wp2
  go_end0
  unfold TPost at hD
  obtain ⟨m1, m5, m6⟩ := hD
  have P1' : prd l = tE l2 := by rw [P1.out, kE2]
  refine ⟨rfl, by rw [P1']; exact m1, hM3.trans m5 (fun _ _ h => h) (fun _ _ h => h), fun e0 => ?_⟩
  have e0' : tE l2 = 0 := by rw [← P1']; exact e0
  obtain ⟨xs', v4, n0, n1, n2, n3, n4, n5, B2, ys, n6, n7, n8, n9, n10, n11⟩ := m6 e0'
  rw [P2.out, P3.out]
  have h00 : rde (gN (rdr 8 l2)) (rdr 1 (rdr 8 l2)) = 0 := by
    have e1 := e0'
    unfold tE lE at e1
    split at e1
    · omega
    · split at e1
      · omega
      · split at e1
        · omega
        · rwa [Nat.mul_one] at e1
  refine ⟨xs', v4, by rw [Nat.mul_one] at n0; exact n0, fun g hg => ho1 g (ho3 g (n1 g hg)), n2, pkin2 n3 n4 n5 n6 (by omega) n8 n9 n11 h00⟩
set_option maxRecDepth 100000 in
set_option maxHeartbeats 2000000 in
theorem packet_r3 (q pr b : Nat) (v : Value) (l l1 : List Int) (w : World) (h : Co w q pr 0) (hr : Rd w pr v l) (hB : Bk w b 76 pz) (hn : q ≠ pr ∧ b ≠ pr ∧ b ≠ q) (hv : ∀ g, v.ownBlock = some g → g < w.heap.size ∧ g ≠ q ∧ g ≠ b) (hE : (num 0 0 l).2.2 = 0) (hl1 : l.drop (num 0 0 l).2.1.toNat = l1) (hK : (num 0 0 l).1 = 3) (l2 : List Int) (hE1 : (num 0 0 l1).2.2 = 0) (hl2 : l1.drop (num 0 0 l1).2.1.toNat = l2) (hb : l.length ≤ 140737488355328) :
    Calls Try.prog 73 #[.pointer (some ⟨q, 0, none⟩), .pointer (some ⟨b, 0, none⟩)] w fun e w' => e = .returned (.tuple #[]) ∧ KPost q pr b v l w w' := by
  obtain ⟨p1, p2, p3⟩ := prd_all l l1 l2 3 hE hl1 hK (by decide) hE1 hl2
  have P1 : Hid (prd l = Go.Proofs.Ytajhpnfpjickbaa.kE 3 l2) := p1
  have P2 : Hid (prP l = kP 3 (num 0 0 l1).1 l2) := p2
  have P3 : Hid (prL l = kR 3 l2) := p3
  have hlen : l2.length ≤ l.length := by rw [← hl2, ← hl1, List.length_drop, List.length_drop]; omega
  have hrl : ∀ c ∈ l2, 0 ≤ c ∧ c ≤ 255 := fun c hc => hr.sl.rng c (by rw [← hl2, ← hl1] at hc; exact List.mem_of_mem_drop (List.mem_of_mem_drop hc))
  clear p1 p2 p3
  have H1 := number_n q pr b 0 76 pz 0 v l w h hr hB rfl hn hv
  have HK := isKind_any 3
  rw [show decide ((1 : Int) ≤ 3 ∧ (3 : Int) ≤ 5) = true from by decide] at HK
  rw [hE, hK, hl1] at H1
  clear h hr hB hE hK hl1
  go_enter Try.func73, Try.ntmps73
  go_wp2_with (fail)
  refine H1.mono ?_
  rintro e w1 ⟨rfl, v1, h1, hr1, ho1, hB1, hm1⟩
  have k0 := hB1.cellv (j := 0) (v := .int .i64 3) rfl
  clear H1
  go_wp2_with (fail)
  refine (HK _).mono ?_
  rintro e w2 ⟨rfl, hm2⟩
  have h2 := h1.mod hm2 (fun h => h)
  have hr2 := hr1.mod hm2 (fun h => h) (fun _ _ h => h)
  have hB2 := hB1.mod hm2 (fun h => h)
  have hv1 : ∀ g, v1.ownBlock = some g → g < w2.heap.size ∧ g ≠ q ∧ g ≠ b := fun g hg => by
    have := hv g (ho1 g hg)
    have := hm1.size
    have := hm2.size
    omega
  have H2 := number_n q pr b 1 76 _ 0 v1 l1 w2 h2 hr2 hB2 rfl hn hv1
  clear HK k0 h1 hr1 hB1
  go_wp2_with (fail)
  refine H2.mono ?_
  rintro e w3 ⟨rfl, v3, h3, hr3, ho3, hB3, hm3⟩
  have k3 := hB3.cellv (j := 0) (v := .int .i64 3) rfl
  have hM3 : Mod (fun k => k = pr ∨ k = q ∨ k = b) w w3 := (hm1.trans hm2 (V := fun k => k = pr ∨ k = q ∨ k = b) (fun _ _ h => h) (fun _ _ h => h.elim)).trans hm3 (fun _ _ h => h) (fun _ _ h => h)
  clear H2 h2 hr2 hB2 hm1 hm2 hm3
  rw [hE1] at h3
  rw [hl2] at hr3
  have hs3 := hM3.size
  have hv3 : ∀ g, v3.ownBlock = some g → g < w3.heap.size ∧ g ≠ q ∧ g ≠ b := fun g hg => by
    have := hv g (ho1 g (ho3 g hg))
    omega
  clear hE1 hl2
  generalize (num 0 0 l1).1 = N1 at *
  have hv4 : v3.ownBlock ≠ some q ∧ v3.ownBlock ≠ some b := ⟨fun e => (hv3 q e).2.1 rfl, fun e => (hv3 b e).2.2 rfl⟩
  have hsz : 29 + 3 ≤ ((pz.setIfInBounds 0 (.int .i64 3)).setIfInBounds 1 (.int .i64 N1) : Array Value).size := by show 32 ≤ 40; omega
  have hx : ∀ k, k < 3 → ∃ x, ((pz.setIfInBounds 0 (.int .i64 3)).setIfInBounds 1 (.int .i64 N1) : Array Value)[29 + k]? = some (.int .i64 x) := (fun k hk => by
    match k, hk with
    | 0, _ => exact ⟨0, rfl⟩
    | 1, _ => exact ⟨0, rfl⟩
    | 2, _ => exact ⟨0, rfl⟩
    | k + 3, hk => omega)
  have hN0 := Nst.start (off := 29) (n := 3) h3 hr3 hB3
  have hA : Mod (fun _ => False) w3 (w3.alloc (.cells #[.pointer (some ⟨b, 29, none⟩), .pointer (some ⟨b, 30, none⟩), .pointer (some ⟨b, 31, none⟩)] 131)).drew := ((Mod.refl _ w3).alloc _).drew
  have hC : (w3.alloc (.cells #[.pointer (some ⟨b, 29, none⟩), .pointer (some ⟨b, 30, none⟩), .pointer (some ⟨b, 31, none⟩)] 131)).drew.heap[w3.heap.size]? = some (.cells #[.pointer (some ⟨b, 29, none⟩), .pointer (some ⟨b, 30, none⟩), .pointer (some ⟨b, 31, none⟩)] 131 (0, 0)) := heap_alloc_new w3 (.cells #[.pointer (some ⟨b, 29, none⟩), .pointer (some ⟨b, 30, none⟩), .pointer (some ⟨b, 31, none⟩)] 131)
  have hN1 := hN0.world hA
  have hz : q < w3.heap.size ∧ pr < w3.heap.size ∧ b < w3.heap.size := ⟨lt_of_block h3.blk, lt_of_block hr3.blk, hB3.lt⟩
  have HN := numbers_c 3 w3.heap.size 3 w3 q pr b 76 _ 29 3 v3 l2 0 _ _ _ _ _ _ hN1 (by omega) hsz hx hn hv4 (fun k hk => by
    unfold World.cell?
    dsimp only
    rw [hC]
    match k, hk with
    | 0, _ => rfl
    | 1, _ => rfl
    | 2, _ => rfl
    | k + 3, hk => omega) ⟨by omega, by omega, by omega⟩ (by omega)
  clear hC h3 hr3 hB3 hN0 hN1 hx hsz
  go_wp2_with (fail)
  go_region_held3 (fun _ => True) (trivial) ((go_at_call 105; refine HN.mono ?_; rintro e w4 ⟨rfl, xs', v4, l4, d4, E4, h4⟩))
  clear HN
  obtain ⟨q1, q2⟩ := Nst.done h4
  go_wp2
  go_end0
  have P1' : prd l = rde 3 l2 := P1.out
  refine ⟨rfl, by rw [P1', ← q1]; exact h4.co, hM3.trans h4.mod (fun _ _ h => h) (fun _ _ h => h), fun e0 => ?_⟩
  have e0' : E4 = 0 := by rw [q1, ← P1']; exact e0
  obtain ⟨r1, r2⟩ := q2 e0'
  rw [P2.out, P3.out]
  exact ⟨xs', v4, by have := h4.rd; rw [r1] at this; exact this, fun g hg => ho1 g (ho3 g (h4.own g hg)), h4.bk, pkin3 (by rw [h4.size]; rfl) (fun k hk => h4.out k (by omega)) r2⟩
set_option maxRecDepth 100000 in
set_option maxHeartbeats 2000000 in
theorem packet_r4 (q pr b : Nat) (v : Value) (l l1 : List Int) (w : World) (h : Co w q pr 0) (hr : Rd w pr v l) (hB : Bk w b 76 pz) (hn : q ≠ pr ∧ b ≠ pr ∧ b ≠ q) (hv : ∀ g, v.ownBlock = some g → g < w.heap.size ∧ g ≠ q ∧ g ≠ b) (hE : (num 0 0 l).2.2 = 0) (hl1 : l.drop (num 0 0 l).2.1.toNat = l1) (hK : (num 0 0 l).1 = 4) (l2 : List Int) (hE1 : (num 0 0 l1).2.2 = 0) (hl2 : l1.drop (num 0 0 l1).2.1.toNat = l2) (hb : l.length ≤ 140737488355328) :
    Calls Try.prog 73 #[.pointer (some ⟨q, 0, none⟩), .pointer (some ⟨b, 0, none⟩)] w fun e w' => e = .returned (.tuple #[]) ∧ KPost q pr b v l w w' := by
  obtain ⟨p1, p2, p3⟩ := prd_all l l1 l2 4 hE hl1 hK (by decide) hE1 hl2
  have P1 : Hid (prd l = Go.Proofs.Ytajhpnfpjickbaa.kE 4 l2) := p1
  have P2 : Hid (prP l = kP 4 (num 0 0 l1).1 l2) := p2
  have P3 : Hid (prL l = kR 4 l2) := p3
  have hlen : l2.length ≤ l.length := by rw [← hl2, ← hl1, List.length_drop, List.length_drop]; omega
  have hrl : ∀ c ∈ l2, 0 ≤ c ∧ c ≤ 255 := fun c hc => hr.sl.rng c (by rw [← hl2, ← hl1] at hc; exact List.mem_of_mem_drop (List.mem_of_mem_drop hc))
  clear p1 p2 p3
  have H1 := number_n q pr b 0 76 pz 0 v l w h hr hB rfl hn hv
  have HK := isKind_any 4
  rw [show decide ((1 : Int) ≤ 4 ∧ (4 : Int) ≤ 5) = true from by decide] at HK
  rw [hE, hK, hl1] at H1
  clear h hr hB hE hK hl1
  go_enter Try.func73, Try.ntmps73
  go_wp2_with (fail)
  refine H1.mono ?_
  rintro e w1 ⟨rfl, v1, h1, hr1, ho1, hB1, hm1⟩
  have k0 := hB1.cellv (j := 0) (v := .int .i64 4) rfl
  clear H1
  go_wp2_with (fail)
  refine (HK _).mono ?_
  rintro e w2 ⟨rfl, hm2⟩
  have h2 := h1.mod hm2 (fun h => h)
  have hr2 := hr1.mod hm2 (fun h => h) (fun _ _ h => h)
  have hB2 := hB1.mod hm2 (fun h => h)
  have hv1 : ∀ g, v1.ownBlock = some g → g < w2.heap.size ∧ g ≠ q ∧ g ≠ b := fun g hg => by
    have := hv g (ho1 g hg)
    have := hm1.size
    have := hm2.size
    omega
  have H2 := number_n q pr b 1 76 _ 0 v1 l1 w2 h2 hr2 hB2 rfl hn hv1
  clear HK k0 h1 hr1 hB1
  go_wp2_with (fail)
  refine H2.mono ?_
  rintro e w3 ⟨rfl, v3, h3, hr3, ho3, hB3, hm3⟩
  have k3 := hB3.cellv (j := 0) (v := .int .i64 4) rfl
  have hM3 : Mod (fun k => k = pr ∨ k = q ∨ k = b) w w3 := (hm1.trans hm2 (V := fun k => k = pr ∨ k = q ∨ k = b) (fun _ _ h => h) (fun _ _ h => h.elim)).trans hm3 (fun _ _ h => h) (fun _ _ h => h)
  clear H2 h2 hr2 hB2 hm1 hm2 hm3
  rw [hE1] at h3
  rw [hl2] at hr3
  have hs3 := hM3.size
  have hv3 : ∀ g, v3.ownBlock = some g → g < w3.heap.size ∧ g ≠ q ∧ g ≠ b := fun g hg => by
    have := hv g (ho1 g (ho3 g hg))
    omega
  clear hE1 hl2
  generalize (num 0 0 l1).1 = N1 at *
  have H := commit_r q pr b 32 76 _ none 0 v3 l2 w3 h3 hr3 hB3 (by show 37 ≤ 40; omega) (fun k hk => by
    match k, hk with
    | 0, _ => exact ⟨0, rfl⟩
    | 1, _ => exact ⟨0, rfl⟩
    | 2, _ => exact ⟨0, rfl⟩
    | 3, _ => exact ⟨0, rfl⟩
    | k + 4, hk => omega) rfl hn hv3
  clear h3 hr3 hB3
  go_wp2_with (fail)
  refine H.mono ?_
  rintro e w4 ⟨rfl, hD⟩
  clear H
  go_wp2
  go_end0
  unfold CPost at hD
  obtain ⟨m1, m5, m6⟩ := hD
  have P1' : prd l = cE l2 := by rw [P1.out, kE4]
  refine ⟨rfl, by rw [P1']; exact m1, hM3.trans m5 (fun _ _ h => h) (fun _ _ h => h), fun e0 => ?_⟩
  have e0' : cE l2 = 0 := by rw [← P1']; exact e0
  obtain ⟨xs', v4, n0, n1, n2, n3, n4, n5, B2, ys, n6, n7, n8, n9, n10, n11⟩ := m6 e0'
  rw [P2.out, P3.out]
  exact ⟨xs', v4, n0, fun g hg => ho1 g (ho3 g (n1 g hg)), n2, pkin4 n3 n4 n5 n6 (by omega) n8 n9 n11⟩
set_option maxRecDepth 100000 in
set_option maxHeartbeats 2000000 in
theorem packet_r5 (q pr b : Nat) (v : Value) (l l1 : List Int) (w : World) (h : Co w q pr 0) (hr : Rd w pr v l) (hB : Bk w b 76 pz) (hn : q ≠ pr ∧ b ≠ pr ∧ b ≠ q) (hv : ∀ g, v.ownBlock = some g → g < w.heap.size ∧ g ≠ q ∧ g ≠ b) (hE : (num 0 0 l).2.2 = 0) (hl1 : l.drop (num 0 0 l).2.1.toNat = l1) (hK : (num 0 0 l).1 = 5) (l2 : List Int) (hE1 : (num 0 0 l1).2.2 = 0) (hl2 : l1.drop (num 0 0 l1).2.1.toNat = l2) (hb : l.length ≤ 140737488355328) :
    Calls Try.prog 73 #[.pointer (some ⟨q, 0, none⟩), .pointer (some ⟨b, 0, none⟩)] w fun e w' => e = .returned (.tuple #[]) ∧ KPost q pr b v l w w' := by
  obtain ⟨p1, p2, p3⟩ := prd_all l l1 l2 5 hE hl1 hK (by decide) hE1 hl2
  have P1 : Hid (prd l = Go.Proofs.Ytajhpnfpjickbaa.kE 5 l2) := p1
  have P2 : Hid (prP l = kP 5 (num 0 0 l1).1 l2) := p2
  have P3 : Hid (prL l = kR 5 l2) := p3
  have hlen : l2.length ≤ l.length := by rw [← hl2, ← hl1, List.length_drop, List.length_drop]; omega
  have hrl : ∀ c ∈ l2, 0 ≤ c ∧ c ≤ 255 := fun c hc => hr.sl.rng c (by rw [← hl2, ← hl1] at hc; exact List.mem_of_mem_drop (List.mem_of_mem_drop hc))
  clear p1 p2 p3
  have H1 := number_n q pr b 0 76 pz 0 v l w h hr hB rfl hn hv
  have HK := isKind_any 5
  rw [show decide ((1 : Int) ≤ 5 ∧ (5 : Int) ≤ 5) = true from by decide] at HK
  rw [hE, hK, hl1] at H1
  clear h hr hB hE hK hl1
  go_enter Try.func73, Try.ntmps73
  go_wp2_with (fail)
  refine H1.mono ?_
  rintro e w1 ⟨rfl, v1, h1, hr1, ho1, hB1, hm1⟩
  have k0 := hB1.cellv (j := 0) (v := .int .i64 5) rfl
  clear H1
  go_wp2_with (fail)
  refine (HK _).mono ?_
  rintro e w2 ⟨rfl, hm2⟩
  have h2 := h1.mod hm2 (fun h => h)
  have hr2 := hr1.mod hm2 (fun h => h) (fun _ _ h => h)
  have hB2 := hB1.mod hm2 (fun h => h)
  have hv1 : ∀ g, v1.ownBlock = some g → g < w2.heap.size ∧ g ≠ q ∧ g ≠ b := fun g hg => by
    have := hv g (ho1 g hg)
    have := hm1.size
    have := hm2.size
    omega
  have H2 := number_n q pr b 1 76 _ 0 v1 l1 w2 h2 hr2 hB2 rfl hn hv1
  clear HK k0 h1 hr1 hB1
  go_wp2_with (fail)
  refine H2.mono ?_
  rintro e w3 ⟨rfl, v3, h3, hr3, ho3, hB3, hm3⟩
  have k3 := hB3.cellv (j := 0) (v := .int .i64 5) rfl
  have hM3 : Mod (fun k => k = pr ∨ k = q ∨ k = b) w w3 := (hm1.trans hm2 (V := fun k => k = pr ∨ k = q ∨ k = b) (fun _ _ h => h) (fun _ _ h => h.elim)).trans hm3 (fun _ _ h => h) (fun _ _ h => h)
  clear H2 h2 hr2 hB2 hm1 hm2 hm3
  rw [hE1] at h3
  rw [hl2] at hr3
  have hs3 := hM3.size
  have hv3 : ∀ g, v3.ownBlock = some g → g < w3.heap.size ∧ g ≠ q ∧ g ≠ b := fun g hg => by
    have := hv g (ho1 g (ho3 g hg))
    omega
  clear hE1 hl2
  generalize (num 0 0 l1).1 = N1 at *
  have hv4 : v3.ownBlock ≠ some q ∧ v3.ownBlock ≠ some b := ⟨fun e => (hv3 q e).2.1 rfl, fun e => (hv3 b e).2.2 rfl⟩
  have hsz : 37 + 3 ≤ ((pz.setIfInBounds 0 (.int .i64 5)).setIfInBounds 1 (.int .i64 N1) : Array Value).size := by show 40 ≤ 40; omega
  have hx : ∀ k, k < 3 → ∃ x, ((pz.setIfInBounds 0 (.int .i64 5)).setIfInBounds 1 (.int .i64 N1) : Array Value)[37 + k]? = some (.int .i64 x) := (fun k hk => by
    match k, hk with
    | 0, _ => exact ⟨0, rfl⟩
    | 1, _ => exact ⟨0, rfl⟩
    | 2, _ => exact ⟨0, rfl⟩
    | k + 3, hk => omega)
  have hN0 := Nst.start (off := 37) (n := 3) h3 hr3 hB3
  have H := ring_c w3 q pr b 76 _ 37 3 v3 l2 0 _ _ _ _ _ _ hN0 (by omega) hsz hx hn hv4
  clear h3 hr3 hB3 hN0
  go_wp2_with (fail)
  refine H.mono ?_
  rintro e w4' ⟨rfl, xs2, v2', l2', d2, E2, h2'⟩
  have HS := numbers_step w3 q pr b 76 _ 37 3 v3 l2 (0 + 2) xs2 v2' l2' d2 E2 w4' w4' h2' (Mod.refl _ _) (by omega) hsz hx hn hv4
  clear H h2' hx hsz
  go_wp2_with (fail)
  refine HS.mono ?_
  rintro e w4 ⟨rfl, xs', v4, l4, d4, E4, _, h4⟩
  clear HS
  obtain ⟨q1, q2⟩ := Nst.done h4
  go_wp2
  go_end0
  have P1' : prd l = rde 3 l2 := P1.out
  refine ⟨rfl, by rw [P1', ← q1]; exact h4.co, hM3.trans h4.mod (fun _ _ h => h) (fun _ _ h => h), fun e0 => ?_⟩
  have e0' : E4 = 0 := by rw [q1, ← P1']; exact e0
  obtain ⟨r1, r2⟩ := q2 e0'
  rw [P2.out, P3.out]
  exact ⟨xs', v4, by have := h4.rd; rw [r1] at this; exact this, fun g hg => ho1 g (ho3 g (h4.own g hg)), h4.bk, pkin5 (by rw [h4.size]; rfl) (fun k hk => h4.out k (by omega)) r2⟩
/-- A packet is read. -/
theorem packet_r (q pr b : Nat) (v : Value) (l : List Int) (w : World) (h : Co w q pr 0) (hr : Rd w pr v l) (hB : Bk w b 76 pz) (hn : q ≠ pr ∧ b ≠ pr ∧ b ≠ q) (hv : ∀ g, v.ownBlock = some g → g < w.heap.size ∧ g ≠ q ∧ g ≠ b) (hb : l.length ≤ 140737488355328) :
    Calls Try.prog 73 #[.pointer (some ⟨q, 0, none⟩), .pointer (some ⟨b, 0, none⟩)] w fun e w' => e = .returned (.tuple #[]) ∧ KPost q pr b v l w w' := by
  by_cases hE : (num 0 0 l).2.2 = 0
  · by_cases hK : 1 ≤ (num 0 0 l).1 ∧ (num 0 0 l).1 ≤ 5
    · have hK5 : (num 0 0 l).1 = 1 ∨ (num 0 0 l).1 = 2 ∨ (num 0 0 l).1 = 3 ∨ (num 0 0 l).1 = 4 ∨ (num 0 0 l).1 = 5 := by omega
      by_cases hE1 : (num 0 0 (l.drop (num 0 0 l).2.1.toNat)).2.2 = 0
      · rcases hK5 with hk | hk | hk | hk | hk
        · exact packet_r1 q pr b v l _ w h hr hB hn hv hE rfl hk _ hE1 rfl hb
        · exact packet_r2 q pr b v l _ w h hr hB hn hv hE rfl hk _ hE1 rfl hb
        · exact packet_r3 q pr b v l _ w h hr hB hn hv hE rfl hk _ hE1 rfl hb
        · exact packet_r4 q pr b v l _ w h hr hB hn hv hE rfl hk _ hE1 rfl hb
        · exact packet_r5 q pr b v l _ w h hr hB hn hv hE rfl hk _ hE1 rfl hb
      · rcases hK5 with hk | hk | hk | hk | hk
        · exact packet_rC1 q pr b v l _ w h hr hB hn hv hE rfl hk hE1
        · exact packet_rC2 q pr b v l _ w h hr hB hn hv hE rfl hk hE1
        · exact packet_rC3 q pr b v l _ w h hr hB hn hv hE rfl hk hE1
        · exact packet_rC4 q pr b v l _ w h hr hB hn hv hE rfl hk hE1
        · exact packet_rC5 q pr b v l _ w h hr hB hn hv hE rfl hk hE1
    · exact packet_rB q pr b v l w h hr hB hn hv hE hK
  · exact packet_rA q pr b v l w h hr hB hn hv hE
end Go.Proofs.Ytajhpnfpjickbaa
