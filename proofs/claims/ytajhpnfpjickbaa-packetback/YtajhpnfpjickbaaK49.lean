/- Contract of packet's coder that reads: a packet, where it cannot be read; and the numbers ahead. Conditions: blocks apart. Contract of packet's coder that reads: a packet to whom cannot be read. Conditions: blocks apart. -/
import Derived.Test.YtajhpnfpjickbaaK48
namespace Go.Proofs.Ytajhpnfpjickbaa
open Go.RowKit
/-- The cells of a packet. -/
def pxp (P : Pk) (ao : Option Addr) (cap : Nat) (tao : Option Addr) (tcap : Nat) (cao : Option Addr) (ccap : Nat) : Array Value := px P.kind P.to P.d.rs P.d.rr P.d.sq P.d.sn P.d.st P.d.m.kind P.d.m.origin P.d.m.life P.d.m.id P.d.m.part P.d.m.parts P.d.m.groups P.d.m.safe P.d.m.st P.d.m.rs P.d.m.rr P.d.m.sq ao cap P.d.m.body P.t.rs P.t.rr P.t.hop P.t.sq P.t.aru P.t.low P.t.st P.t.idle tao tcap P.t.ask P.j.sn P.j.proc P.j.ct P.c.rs P.c.rr P.c.mem P.c.hop cao ccap P.c.es P.b.rs P.b.rr P.b.sn
/-- No packet. -/
def pz : Array Value := pxp Pk.zero none 0 none 0 none 0
/-- A packet in cells, what hangs on it in blocks from m on. -/
def PkIn (w : World) (m : Nat) (xs : Array Value) (P : Pk) : Prop := ∃ ao cap tao tcap cao ccap, xs = pxp P ao cap tao tcap cao ccap ∧ Sl w (.slice ao P.d.m.body.length cap) P.d.m.body ∧ Cr.Sl w (.slice tao P.t.ask.length tcap) P.t.ask ∧ SlE w (.slice cao P.c.es.length ccap) P.c.es ∧
  (P.d.m.body ≠ [] → ∀ g, (Value.slice ao P.d.m.body.length cap).ownBlock = some g → m ≤ g) ∧ (P.t.ask ≠ [] → ∀ g, (Value.slice tao P.t.ask.length tcap).ownBlock = some g → m ≤ g) ∧ (P.c.es ≠ [] → ∀ g, (Value.slice cao P.c.es.length ccap).ownBlock = some g → m ≤ g)
/-- What is left when a packet was read. -/
def KPost (q pr b : Nat) (v : Value) (l : List Int) (w w' : World) : Prop := Co w' q pr (prd l) ∧ Mod (fun k => k = pr ∨ k = q ∨ k = b) w w' ∧ (prd l = 0 → ∃ xs' v', Rd w' pr v' (prL l) ∧ (∀ g, v'.ownBlock = some g → v.ownBlock = some g) ∧ Bk w' b 76 xs' ∧ PkIn w' w.heap.size xs' (prP l))
/-- A number, read into a cell. -/
theorem number_n (q pr b off : Nat) (t : TypeId) (xs : Array Value) (x : Int) (v : Value) (l : List Int) (w : World) (h : Co w q pr 0) (hr : Rd w pr v l) (hB : Bk w b t xs) (hx : xs[off]? = some (.int .i64 x)) (hn : q ≠ pr ∧ b ≠ pr ∧ b ≠ q) (hv : ∀ g, v.ownBlock = some g → g < w.heap.size ∧ g ≠ q ∧ g ≠ b) :
    Calls Try.prog 100 #[.pointer (some ⟨q, 0, none⟩), .pointer (some ⟨b, off, none⟩)] w fun e w' => e = .returned (.tuple #[]) ∧ ∃ v', Co w' q pr (num 0 0 l).2.2 ∧ Rd w' pr v' (l.drop (num 0 0 l).2.1.toNat) ∧ (∀ g, v'.ownBlock = some g → v.ownBlock = some g) ∧ Bk w' b t (xs.setIfInBounds off (.int .i64 (num 0 0 l).1)) ∧ Mod (fun k => k = pr ∨ k = q ∨ k = b) w w' := by
  refine (number_r q pr v l b off t xs x w h hr hB hx hn).mono ?_
  rintro e w' ⟨rfl, w1, v', hm, hr2, ho, rfl⟩
  have hMs : Mod (fun k => k = b ∨ k = q) w1 ((w1.setCell ⟨b, off, none⟩ (.int .i64 (num 0 0 l).1)).setCell ⟨q, 2, none⟩ (.int .i64 (num 0 0 l).2.2)) := ((Mod.refl _ w1).setCell _ _ (.inl (.inl rfl))).setCell _ _ (.inl (.inr rfl))
  refine ⟨rfl, v', ((h.mod hm (fun e => hn.1 e)).other _ _ hn.2.2).set _, hr2.mod hMs (by omega) (fun g hg e => by have := hv g (ho g hg); omega), ho, ((hB.mod hm (fun e => hn.2.1 e)).set _ _).other _ _ (fun e => hn.2.2 e.symm), hm.trans hMs (fun _ _ h => .inl h) (fun i hi h => by omega)⟩
theorem prd_way (l : List Int) : (rde 1 l ≠ 0 → prd l = rde 1 l) ∧ (rde 1 l = 0 → ¬ (1 ≤ pK l ∧ pK l ≤ 5) → prd l = 4) ∧ (rde 1 l = 0 → (1 ≤ pK l ∧ pK l ≤ 5) → rde 1 (rdr 1 l) ≠ 0 → prd l = rde 1 (rdr 1 l)) ∧ (rde 1 l = 0 → (1 ≤ pK l ∧ pK l ≤ 5) → rde 1 (rdr 1 l) = 0 → prd l = kE (pK l) (rdr 1 (rdr 1 l))) := by
  refine ⟨fun h => by rw [prd, if_pos h], fun h h2 => by rw [prd, if_neg (by simp [h]), if_pos h2], fun h h2 h3 => by rw [prd, if_neg (by simp [h]), if_neg (by simp [h2]), if_pos h3], fun h h2 h3 => by rw [prd, if_neg (by simp [h]), if_neg (by simp [h2]), if_neg (by simp [h3])]⟩
theorem rd1v (l : List Int) (h : (num 0 0 l).2.2 = 0) : g (rdv 1 l) 0 = (num 0 0 l).1 := by
  rw [rdv, if_pos h]
  simp [g]
set_option maxRecDepth 100000 in
set_option maxHeartbeats 2000000 in
theorem packet_rA (q pr b : Nat) (v : Value) (l : List Int) (w : World) (h : Co w q pr 0) (hr : Rd w pr v l) (hB : Bk w b 76 pz) (hn : q ≠ pr ∧ b ≠ pr ∧ b ≠ q) (hv : ∀ g, v.ownBlock = some g → g < w.heap.size ∧ g ≠ q ∧ g ≠ b) (hE : (num 0 0 l).2.2 ≠ 0) :
    Calls Try.prog 73 #[.pointer (some ⟨q, 0, none⟩), .pointer (some ⟨b, 0, none⟩)] w fun e w' => e = .returned (.tuple #[]) ∧ KPost q pr b v l w w' := by
  have H1 := number_n q pr b 0 76 pz 0 v l w h hr hB rfl hn hv
  have hz : (num 0 0 l).1 = 0 := by have := num_val l 0 0; omega
  have eP : prd l = (num 0 0 l).2.2 := by rw [(prd_way l).1 (by rw [(rd1 l).1]; exact hE), (rd1 l).1]
  have HP : Hid (prd l = (num 0 0 l).2.2) := eP
  have HK := isKind_any 0
  rw [show decide ((1 : Int) ≤ 0 ∧ (0 : Int) ≤ 5) = false from by decide] at HK
  rw [hz] at H1
  generalize (num 0 0 l).2.2 = E at *
  have HEE : Hid (E ≠ 0) := hE
  clear h hr hB hz eP
  go_enter Try.func73, Try.ntmps73
  go_wp2_with (fail)
  refine H1.mono ?_
  rintro e w1 ⟨rfl, v1, h1, hr1, ho1, hB1, hm1⟩
  have k0 := hB1.cellv (j := 0) (v := .int .i64 0) rfl
  clear H1
  go_wp2_with (fail)
  refine (HK _).mono ?_
  rintro e w2 ⟨rfl, hm2⟩
  have h2 := h1.mod hm2 (fun h => h)
  have k2 := hm2.cell k0 (fun h => h)
  have HF := fail_r1 q pr E 4 hE w2 h2
  have HN := fun u => number_r1 q pr E u hE w2 h2
  clear HK
  go_wp2_with (fail)
  refine HF.mono ?_
  rintro e w3 ⟨rfl, rfl⟩
  go_wp2_with (fail)
  refine (HN _).mono ?_
  rintro e w4 ⟨rfl, rfl⟩
  clear HF HN
  go_wp2
  go_end0
  exact ⟨rfl, by rw [HP.out]; exact h2, hm1.trans hm2 (fun _ _ h => h) (fun _ _ h => h.elim), fun e => absurd (HP.out ▸ e) HEE.out⟩
set_option maxRecDepth 100000 in
set_option maxHeartbeats 2000000 in
theorem packet_rB (q pr b : Nat) (v : Value) (l : List Int) (w : World) (h : Co w q pr 0) (hr : Rd w pr v l) (hB : Bk w b 76 pz) (hn : q ≠ pr ∧ b ≠ pr ∧ b ≠ q) (hv : ∀ g, v.ownBlock = some g → g < w.heap.size ∧ g ≠ q ∧ g ≠ b) (hE : (num 0 0 l).2.2 = 0) (hK : ¬ (1 ≤ (num 0 0 l).1 ∧ (num 0 0 l).1 ≤ 5)) :
    Calls Try.prog 73 #[.pointer (some ⟨q, 0, none⟩), .pointer (some ⟨b, 0, none⟩)] w fun e w' => e = .returned (.tuple #[]) ∧ KPost q pr b v l w w' := by
  have H1 := number_n q pr b 0 76 pz 0 v l w h hr hB rfl hn hv
  have HP : Hid (prd l = 4) := (prd_way l).2.1 (by rw [(rd1 l).1]; exact hE) (by rw [pK, rd1v l hE]; exact hK)
  have HK := isKind_any (num 0 0 l).1
  rw [show decide ((1 : Int) ≤ (num 0 0 l).1 ∧ (num 0 0 l).1 ≤ 5) = false from by simpa using hK] at HK
  rw [hE] at H1
  generalize (num 0 0 l).1 = K at *
  have z1 : (K == 1) = false := by simp; omega
  have z2 : (K == 2) = false := by simp; omega
  have z3 : (K == 3) = false := by simp; omega
  have z4 : (K == 4) = false := by simp; omega
  have z5 : (K == 5) = false := by simp; omega
  clear h hr hB hE hK
  go_enter Try.func73, Try.ntmps73
  go_wp2_with (fail)
  refine H1.mono ?_
  rintro e w1 ⟨rfl, v1, h1, hr1, ho1, hB1, hm1⟩
  have k0 := hB1.cellv (j := 0) (v := .int .i64 K) rfl
  clear H1
  go_wp2_with (fail)
  refine (HK _).mono ?_
  rintro e w2 ⟨rfl, hm2⟩
  have h2 := h1.mod hm2 (fun h => h)
  have k2 := hm2.cell k0 (fun h => h)
  have HF := fail_r0 q pr 4 w2 h2
  have h3 := h2.set 4
  have hM : Mod (fun k => k = q) w2 (w2.setCell ⟨q, 2, none⟩ (.int .i64 4)) := (Mod.refl _ _).setCell _ _ (.inl rfl)
  have k3 := hM.cell k2 (fun e => hn.2.2 e)
  have hMM : Mod (fun k => k = pr ∨ k = q ∨ k = b) w (w2.setCell ⟨q, 2, none⟩ (.int .i64 4)) := (hm1.trans hm2 (V := fun k => k = pr ∨ k = q ∨ k = b) (fun _ _ h => h) (fun _ _ h => h.elim)).trans hM (fun _ _ h => h) (fun _ _ h => .inr (.inl h))
  have HN := fun u => number_r1 q pr 4 u (by decide) _ h3
  clear HK
  go_wp2_with (fail)
  refine HF.mono ?_
  rintro e w3 ⟨rfl, hw3⟩
  rw [← hw3] at h3 k3 hMM HN
  clear hw3
  go_wp2_with (fail)
  refine (HN _).mono ?_
  rintro e w4 ⟨rfl, rfl⟩
  clear HF HN
  go_wp2
  go_end0
  exact ⟨rfl, by rw [HP.out]; exact h3, hMM, fun e => absurd (HP.out ▸ e) (by decide)⟩
end Go.Proofs.Ytajhpnfpjickbaa
namespace Go.Proofs.Ytajhpnfpjickbaa
open Go.RowKit
set_option maxRecDepth 100000 in
set_option maxHeartbeats 2000000 in
theorem packet_rC1 (q pr b : Nat) (v : Value) (l l1 : List Int) (w : World) (h : Co w q pr 0) (hr : Rd w pr v l) (hB : Bk w b 76 pz) (hn : q ≠ pr ∧ b ≠ pr ∧ b ≠ q) (hv : ∀ g, v.ownBlock = some g → g < w.heap.size ∧ g ≠ q ∧ g ≠ b) (hE : (num 0 0 l).2.2 = 0) (hl1 : l.drop (num 0 0 l).2.1.toNat = l1) (hK : (num 0 0 l).1 = 1) (hE1 : (num 0 0 l1).2.2 ≠ 0) :
    Calls Try.prog 73 #[.pointer (some ⟨q, 0, none⟩), .pointer (some ⟨b, 0, none⟩)] w fun e w' => e = .returned (.tuple #[]) ∧ KPost q pr b v l w w' := by
  have HP : Hid (prd l = (num 0 0 l1).2.2) := by
    have e1 : rde 1 l = 0 := by rw [(rd1 l).1]; exact hE
    have e2 : rdr 1 l = l1 := by rw [((rd1 l).2 hE).2]; exact hl1
    have e3 : pK l = 1 := by rw [pK, rd1v l hE]; exact hK
    have e4 : rde 1 (rdr 1 l) = (num 0 0 l1).2.2 := by rw [e2]; exact (rd1 l1).1
    show prd l = _
    rw [(prd_way l).2.2.1 e1 (by rw [e3]; decide) (by rw [e4]; exact hE1), e4]
  have HEE : Hid ((num 0 0 l1).2.2 ≠ 0) := hE1
  have H1 := number_n q pr b 0 76 pz 0 v l w h hr hB rfl hn hv
  have HK := isKind_any 1
  rw [show decide ((1 : Int) ≤ 1 ∧ (1 : Int) ≤ 5) = true from by decide] at HK
  rw [hE, hK, hl1] at H1
  clear h hr hB hE hK hl1
  go_enter Try.func73, Try.ntmps73
  go_wp2_with (fail)
  refine H1.mono ?_
  rintro e w1 ⟨rfl, v1, h1, hr1, ho1, hB1, hm1⟩
  have k0 := hB1.cellv (j := 0) (v := .int .i64 1) rfl
  clear H1
  go_wp2_with (fail)
  refine (HK _).mono ?_
  rintro e w2 ⟨rfl, hm2⟩
  have h2 := h1.mod hm2 (fun h => h)
  have hr2 := hr1.mod hm2 (fun h => h) (fun _ _ h => h)
  have hB2 := hB1.mod hm2 (fun h => h)
  have hv1 : ∀ g, v1.ownBlock = some g → g < w2.heap.size ∧ g ≠ q ∧ g ≠ b := fun g hg => by
    have := hv g (ho1 g hg)
    have := hm1.size
    have := hm2.size
    omega
  have H2 := number_n q pr b 1 76 _ 0 v1 l1 w2 h2 hr2 hB2 rfl hn hv1
  clear HK k0 h1 hr1 hB1
  go_wp2_with (fail)
  refine H2.mono ?_
  rintro e w3 ⟨rfl, v3, h3, hr3, ho3, hB3, hm3⟩
  have k3 := hB3.cellv (j := 0) (v := .int .i64 1) rfl
  have hM3 : Mod (fun k => k = pr ∨ k = q ∨ k = b) w w3 := (hm1.trans hm2 (V := fun k => k = pr ∨ k = q ∨ k = b) (fun _ _ h => h) (fun _ _ h => h.elim)).trans hm3 (fun _ _ h => h) (fun _ _ h => h)
  clear H2 h2 hr2 hB2 hm1 hm2 hm3
  generalize (num 0 0 l1).2.2 = E at *
  generalize (num 0 0 l1).1 = N1 at *
  have H := data_bad q pr E hE1 b 2 w3 h3
  clear h3 hr3 hB3
  go_wp2_with (fail)
  refine H.mono ?_
  rintro e w4 ⟨rfl, h4, hm4⟩
  clear H
  go_wp2
  go_end0
  exact ⟨rfl, by rw [HP.out]; exact h4, hM3.trans hm4 (fun _ _ h => h) (fun _ _ h => h.elim), fun e => absurd (HP.out ▸ e) HEE.out⟩
set_option maxRecDepth 100000 in
set_option maxHeartbeats 2000000 in
theorem packet_rC2 (q pr b : Nat) (v : Value) (l l1 : List Int) (w : World) (h : Co w q pr 0) (hr : Rd w pr v l) (hB : Bk w b 76 pz) (hn : q ≠ pr ∧ b ≠ pr ∧ b ≠ q) (hv : ∀ g, v.ownBlock = some g → g < w.heap.size ∧ g ≠ q ∧ g ≠ b) (hE : (num 0 0 l).2.2 = 0) (hl1 : l.drop (num 0 0 l).2.1.toNat = l1) (hK : (num 0 0 l).1 = 2) (hE1 : (num 0 0 l1).2.2 ≠ 0) :
    Calls Try.prog 73 #[.pointer (some ⟨q, 0, none⟩), .pointer (some ⟨b, 0, none⟩)] w fun e w' => e = .returned (.tuple #[]) ∧ KPost q pr b v l w w' := by
  have HP : Hid (prd l = (num 0 0 l1).2.2) := by
    have e1 : rde 1 l = 0 := by rw [(rd1 l).1]; exact hE
    have e2 : rdr 1 l = l1 := by rw [((rd1 l).2 hE).2]; exact hl1
    have e3 : pK l = 2 := by rw [pK, rd1v l hE]; exact hK
    have e4 : rde 1 (rdr 1 l) = (num 0 0 l1).2.2 := by rw [e2]; exact (rd1 l1).1
    show prd l = _
    rw [(prd_way l).2.2.1 e1 (by rw [e3]; decide) (by rw [e4]; exact hE1), e4]
  have HEE : Hid ((num 0 0 l1).2.2 ≠ 0) := hE1
  have H1 := number_n q pr b 0 76 pz 0 v l w h hr hB rfl hn hv
  have HK := isKind_any 2
  rw [show decide ((1 : Int) ≤ 2 ∧ (2 : Int) ≤ 5) = true from by decide] at HK
  rw [hE, hK, hl1] at H1
  clear h hr hB hE hK hl1
  go_enter Try.func73, Try.ntmps73
  go_wp2_with (fail)
  refine H1.mono ?_
  rintro e w1 ⟨rfl, v1, h1, hr1, ho1, hB1, hm1⟩
  have k0 := hB1.cellv (j := 0) (v := .int .i64 2) rfl
  clear H1
  go_wp2_with (fail)
  refine (HK _).mono ?_
  rintro e w2 ⟨rfl, hm2⟩
  have h2 := h1.mod hm2 (fun h => h)
  have hr2 := hr1.mod hm2 (fun h => h) (fun _ _ h => h)
  have hB2 := hB1.mod hm2 (fun h => h)
  have hv1 : ∀ g, v1.ownBlock = some g → g < w2.heap.size ∧ g ≠ q ∧ g ≠ b := fun g hg => by
    have := hv g (ho1 g hg)
    have := hm1.size
    have := hm2.size
    omega
  have H2 := number_n q pr b 1 76 _ 0 v1 l1 w2 h2 hr2 hB2 rfl hn hv1
  clear HK k0 h1 hr1 hB1
  go_wp2_with (fail)
  refine H2.mono ?_
  rintro e w3 ⟨rfl, v3, h3, hr3, ho3, hB3, hm3⟩
  have k3 := hB3.cellv (j := 0) (v := .int .i64 2) rfl
  have hM3 : Mod (fun k => k = pr ∨ k = q ∨ k = b) w w3 := (hm1.trans hm2 (V := fun k => k = pr ∨ k = q ∨ k = b) (fun _ _ h => h) (fun _ _ h => h.elim)).trans hm3 (fun _ _ h => h) (fun _ _ h => h)
  clear H2 h2 hr2 hB2 hm1 hm2 hm3
  generalize (num 0 0 l1).2.2 = E at *
  generalize (num 0 0 l1).1 = N1 at *
  have H := token_bad q pr E hE1 b 20 76 _ none 0 w3 h3 hB3 rfl hn.2.2
  clear h3 hr3 hB3
  go_wp2_with (fail)
  refine H.mono ?_
  rintro e w4 ⟨rfl, h4, hm4⟩
  clear H
  go_wp2
  go_end0
  exact ⟨rfl, by rw [HP.out]; exact h4, hM3.trans hm4 (fun _ _ h => h) (fun _ _ h => .inr (.inr h)), fun e => absurd (HP.out ▸ e) HEE.out⟩
set_option maxRecDepth 100000 in
set_option maxHeartbeats 2000000 in
theorem packet_rC3 (q pr b : Nat) (v : Value) (l l1 : List Int) (w : World) (h : Co w q pr 0) (hr : Rd w pr v l) (hB : Bk w b 76 pz) (hn : q ≠ pr ∧ b ≠ pr ∧ b ≠ q) (hv : ∀ g, v.ownBlock = some g → g < w.heap.size ∧ g ≠ q ∧ g ≠ b) (hE : (num 0 0 l).2.2 = 0) (hl1 : l.drop (num 0 0 l).2.1.toNat = l1) (hK : (num 0 0 l).1 = 3) (hE1 : (num 0 0 l1).2.2 ≠ 0) :
    Calls Try.prog 73 #[.pointer (some ⟨q, 0, none⟩), .pointer (some ⟨b, 0, none⟩)] w fun e w' => e = .returned (.tuple #[]) ∧ KPost q pr b v l w w' := by
  have HP : Hid (prd l = (num 0 0 l1).2.2) := by
    have e1 : rde 1 l = 0 := by rw [(rd1 l).1]; exact hE
    have e2 : rdr 1 l = l1 := by rw [((rd1 l).2 hE).2]; exact hl1
    have e3 : pK l = 3 := by rw [pK, rd1v l hE]; exact hK
    have e4 : rde 1 (rdr 1 l) = (num 0 0 l1).2.2 := by rw [e2]; exact (rd1 l1).1
    show prd l = _
    rw [(prd_way l).2.2.1 e1 (by rw [e3]; decide) (by rw [e4]; exact hE1), e4]
  have HEE : Hid ((num 0 0 l1).2.2 ≠ 0) := hE1
  have H1 := number_n q pr b 0 76 pz 0 v l w h hr hB rfl hn hv
  have HK := isKind_any 3
  rw [show decide ((1 : Int) ≤ 3 ∧ (3 : Int) ≤ 5) = true from by decide] at HK
  rw [hE, hK, hl1] at H1
  clear h hr hB hE hK hl1
  go_enter Try.func73, Try.ntmps73
  go_wp2_with (fail)
  refine H1.mono ?_
  rintro e w1 ⟨rfl, v1, h1, hr1, ho1, hB1, hm1⟩
  have k0 := hB1.cellv (j := 0) (v := .int .i64 3) rfl
  clear H1
  go_wp2_with (fail)
  refine (HK _).mono ?_
  rintro e w2 ⟨rfl, hm2⟩
  have h2 := h1.mod hm2 (fun h => h)
  have hr2 := hr1.mod hm2 (fun h => h) (fun _ _ h => h)
  have hB2 := hB1.mod hm2 (fun h => h)
  have hv1 : ∀ g, v1.ownBlock = some g → g < w2.heap.size ∧ g ≠ q ∧ g ≠ b := fun g hg => by
    have := hv g (ho1 g hg)
    have := hm1.size
    have := hm2.size
    omega
  have H2 := number_n q pr b 1 76 _ 0 v1 l1 w2 h2 hr2 hB2 rfl hn hv1
  clear HK k0 h1 hr1 hB1
  go_wp2_with (fail)
  refine H2.mono ?_
  rintro e w3 ⟨rfl, v3, h3, hr3, ho3, hB3, hm3⟩
  have k3 := hB3.cellv (j := 0) (v := .int .i64 3) rfl
  have hM3 : Mod (fun k => k = pr ∨ k = q ∨ k = b) w w3 := (hm1.trans hm2 (V := fun k => k = pr ∨ k = q ∨ k = b) (fun _ _ h => h) (fun _ _ h => h.elim)).trans hm3 (fun _ _ h => h) (fun _ _ h => h)
  clear H2 h2 hr2 hB2 hm1 hm2 hm3
  generalize (num 0 0 l1).2.2 = E at *
  generalize (num 0 0 l1).1 = N1 at *
  have hA : Mod (fun _ => False) w3 (w3.alloc (.cells #[.pointer (some ⟨b, 29, none⟩), .pointer (some ⟨b, 30, none⟩), .pointer (some ⟨b, 31, none⟩)] 131)).drew := ((Mod.refl _ w3).alloc _).drew
  have hC : (w3.alloc (.cells #[.pointer (some ⟨b, 29, none⟩), .pointer (some ⟨b, 30, none⟩), .pointer (some ⟨b, 31, none⟩)] 131)).drew.heap[w3.heap.size]? = some (.cells #[.pointer (some ⟨b, 29, none⟩), .pointer (some ⟨b, 30, none⟩), .pointer (some ⟨b, 31, none⟩)] 131 (0, 0)) := heap_alloc_new w3 (.cells #[.pointer (some ⟨b, 29, none⟩), .pointer (some ⟨b, 30, none⟩), .pointer (some ⟨b, 31, none⟩)] 131)
  have h4 := h3.mod hA (fun h => h)
  have HN := numbers_bad q pr E hE1 w3.heap.size 3 3 _ h4 (fun k hk => by
    unfold World.cell?
    dsimp only
    rw [hC]
    match k, hk with
    | 0, _ => exact ⟨_, rfl⟩
    | 1, _ => exact ⟨_, rfl⟩
    | 2, _ => exact ⟨_, rfl⟩
    | k + 3, hk => omega) (by omega)
  clear hC h3 hr3 hB3
  go_wp2_with (fail)
  go_region_held3 (fun _ => True) (trivial) ((go_at_call 105; refine HN.mono ?_; rintro e w4 ⟨rfl, rfl⟩))
  clear HN
  go_wp2
  go_end0
  exact ⟨rfl, by rw [HP.out]; exact h4, hM3.trans hA (fun _ _ h => h) (fun _ _ h => h.elim), fun e => absurd (HP.out ▸ e) HEE.out⟩
set_option maxRecDepth 100000 in
set_option maxHeartbeats 2000000 in
theorem packet_rC4 (q pr b : Nat) (v : Value) (l l1 : List Int) (w : World) (h : Co w q pr 0) (hr : Rd w pr v l) (hB : Bk w b 76 pz) (hn : q ≠ pr ∧ b ≠ pr ∧ b ≠ q) (hv : ∀ g, v.ownBlock = some g → g < w.heap.size ∧ g ≠ q ∧ g ≠ b) (hE : (num 0 0 l).2.2 = 0) (hl1 : l.drop (num 0 0 l).2.1.toNat = l1) (hK : (num 0 0 l).1 = 4) (hE1 : (num 0 0 l1).2.2 ≠ 0) :
    Calls Try.prog 73 #[.pointer (some ⟨q, 0, none⟩), .pointer (some ⟨b, 0, none⟩)] w fun e w' => e = .returned (.tuple #[]) ∧ KPost q pr b v l w w' := by
  have HP : Hid (prd l = (num 0 0 l1).2.2) := by
    have e1 : rde 1 l = 0 := by rw [(rd1 l).1]; exact hE
    have e2 : rdr 1 l = l1 := by rw [((rd1 l).2 hE).2]; exact hl1
    have e3 : pK l = 4 := by rw [pK, rd1v l hE]; exact hK
    have e4 : rde 1 (rdr 1 l) = (num 0 0 l1).2.2 := by rw [e2]; exact (rd1 l1).1
    show prd l = _
    rw [(prd_way l).2.2.1 e1 (by rw [e3]; decide) (by rw [e4]; exact hE1), e4]
  have HEE : Hid ((num 0 0 l1).2.2 ≠ 0) := hE1
  have H1 := number_n q pr b 0 76 pz 0 v l w h hr hB rfl hn hv
  have HK := isKind_any 4
  rw [show decide ((1 : Int) ≤ 4 ∧ (4 : Int) ≤ 5) = true from by decide] at HK
  rw [hE, hK, hl1] at H1
  clear h hr hB hE hK hl1
  go_enter Try.func73, Try.ntmps73
  go_wp2_with (fail)
  refine H1.mono ?_
  rintro e w1 ⟨rfl, v1, h1, hr1, ho1, hB1, hm1⟩
  have k0 := hB1.cellv (j := 0) (v := .int .i64 4) rfl
  clear H1
  go_wp2_with (fail)
  refine (HK _).mono ?_
  rintro e w2 ⟨rfl, hm2⟩
  have h2 := h1.mod hm2 (fun h => h)
  have hr2 := hr1.mod hm2 (fun h => h) (fun _ _ h => h)
  have hB2 := hB1.mod hm2 (fun h => h)
  have hv1 : ∀ g, v1.ownBlock = some g → g < w2.heap.size ∧ g ≠ q ∧ g ≠ b := fun g hg => by
    have := hv g (ho1 g hg)
    have := hm1.size
    have := hm2.size
    omega
  have H2 := number_n q pr b 1 76 _ 0 v1 l1 w2 h2 hr2 hB2 rfl hn hv1
  clear HK k0 h1 hr1 hB1
  go_wp2_with (fail)
  refine H2.mono ?_
  rintro e w3 ⟨rfl, v3, h3, hr3, ho3, hB3, hm3⟩
  have k3 := hB3.cellv (j := 0) (v := .int .i64 4) rfl
  have hM3 : Mod (fun k => k = pr ∨ k = q ∨ k = b) w w3 := (hm1.trans hm2 (V := fun k => k = pr ∨ k = q ∨ k = b) (fun _ _ h => h) (fun _ _ h => h.elim)).trans hm3 (fun _ _ h => h) (fun _ _ h => h)
  clear H2 h2 hr2 hB2 hm1 hm2 hm3
  generalize (num 0 0 l1).2.2 = E at *
  generalize (num 0 0 l1).1 = N1 at *
  have H := commit_bad q pr E hE1 b 32 76 _ none 0 w3 h3 hB3 rfl hn.2.2
  clear h3 hr3 hB3
  go_wp2_with (fail)
  refine H.mono ?_
  rintro e w4 ⟨rfl, h4, hm4⟩
  clear H
  go_wp2
  go_end0
  exact ⟨rfl, by rw [HP.out]; exact h4, hM3.trans hm4 (fun _ _ h => h) (fun _ _ h => .inr (.inr h)), fun e => absurd (HP.out ▸ e) HEE.out⟩
set_option maxRecDepth 100000 in
set_option maxHeartbeats 2000000 in
theorem packet_rC5 (q pr b : Nat) (v : Value) (l l1 : List Int) (w : World) (h : Co w q pr 0) (hr : Rd w pr v l) (hB : Bk w b 76 pz) (hn : q ≠ pr ∧ b ≠ pr ∧ b ≠ q) (hv : ∀ g, v.ownBlock = some g → g < w.heap.size ∧ g ≠ q ∧ g ≠ b) (hE : (num 0 0 l).2.2 = 0) (hl1 : l.drop (num 0 0 l).2.1.toNat = l1) (hK : (num 0 0 l).1 = 5) (hE1 : (num 0 0 l1).2.2 ≠ 0) :
    Calls Try.prog 73 #[.pointer (some ⟨q, 0, none⟩), .pointer (some ⟨b, 0, none⟩)] w fun e w' => e = .returned (.tuple #[]) ∧ KPost q pr b v l w w' := by
  have HP : Hid (prd l = (num 0 0 l1).2.2) := by
    have e1 : rde 1 l = 0 := by rw [(rd1 l).1]; exact hE
    have e2 : rdr 1 l = l1 := by rw [((rd1 l).2 hE).2]; exact hl1
    have e3 : pK l = 5 := by rw [pK, rd1v l hE]; exact hK
    have e4 : rde 1 (rdr 1 l) = (num 0 0 l1).2.2 := by rw [e2]; exact (rd1 l1).1
    show prd l = _
    rw [(prd_way l).2.2.1 e1 (by rw [e3]; decide) (by rw [e4]; exact hE1), e4]
  have HEE : Hid ((num 0 0 l1).2.2 ≠ 0) := hE1
  have H1 := number_n q pr b 0 76 pz 0 v l w h hr hB rfl hn hv
  have HK := isKind_any 5
  rw [show decide ((1 : Int) ≤ 5 ∧ (5 : Int) ≤ 5) = true from by decide] at HK
  rw [hE, hK, hl1] at H1
  clear h hr hB hE hK hl1
  go_enter Try.func73, Try.ntmps73
  go_wp2_with (fail)
  refine H1.mono ?_
  rintro e w1 ⟨rfl, v1, h1, hr1, ho1, hB1, hm1⟩
  have k0 := hB1.cellv (j := 0) (v := .int .i64 5) rfl
  clear H1
  go_wp2_with (fail)
  refine (HK _).mono ?_
  rintro e w2 ⟨rfl, hm2⟩
  have h2 := h1.mod hm2 (fun h => h)
  have hr2 := hr1.mod hm2 (fun h => h) (fun _ _ h => h)
  have hB2 := hB1.mod hm2 (fun h => h)
  have hv1 : ∀ g, v1.ownBlock = some g → g < w2.heap.size ∧ g ≠ q ∧ g ≠ b := fun g hg => by
    have := hv g (ho1 g hg)
    have := hm1.size
    have := hm2.size
    omega
  have H2 := number_n q pr b 1 76 _ 0 v1 l1 w2 h2 hr2 hB2 rfl hn hv1
  clear HK k0 h1 hr1 hB1
  go_wp2_with (fail)
  refine H2.mono ?_
  rintro e w3 ⟨rfl, v3, h3, hr3, ho3, hB3, hm3⟩
  have k3 := hB3.cellv (j := 0) (v := .int .i64 5) rfl
  have hM3 : Mod (fun k => k = pr ∨ k = q ∨ k = b) w w3 := (hm1.trans hm2 (V := fun k => k = pr ∨ k = q ∨ k = b) (fun _ _ h => h) (fun _ _ h => h.elim)).trans hm3 (fun _ _ h => h) (fun _ _ h => h)
  clear H2 h2 hr2 hB2 hm1 hm2 hm3
  generalize (num 0 0 l1).2.2 = E at *
  generalize (num 0 0 l1).1 = N1 at *
  have H := ring_bad q pr E hE1 b 37 w3 h3
  clear h3 hr3 hB3
  go_wp2_with (fail)
  refine H.mono ?_
  rintro e w4 ⟨rfl, h4, hm4⟩
  have HN := fun u => number_r1 q pr E u hE1 w4 h4
  clear H
  go_wp2_with (fail)
  refine (HN _).mono ?_
  rintro e w5 ⟨rfl, rfl⟩
  clear HN
  go_wp2
  go_end0
  exact ⟨rfl, by rw [HP.out]; exact h4, hM3.trans hm4 (fun _ _ h => h) (fun _ _ h => h.elim), fun e => absurd (HP.out ▸ e) HEE.out⟩
end Go.Proofs.Ytajhpnfpjickbaa
