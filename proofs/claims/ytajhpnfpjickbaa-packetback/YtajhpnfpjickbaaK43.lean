/- Contract of packet's Pack. Conditions: what its slices read as; sizes. Contracts of packet's coder that reads: reads, fail, number. Conditions: blocks apart. Contracts of packet's coder that reads: numbers that lie one behind the other. Conditions: blocks apart. -/
import Derived.Test.YtajhpnfpjickbaaK03
import Derived.Test.YtajhpnfpjickbaaK34
import Derived.Test.YtajhpnfpjickbaaK39
import Derived.Test.YtajhpnfpjickbaaK42
namespace Go.Proofs.Ytajhpnfpjickbaa
open Go.RowKit
set_option maxRecDepth 100000 in
set_option maxHeartbeats 4000000 in
theorem pPack_any (kd to dq dr ds dn dt k o lf i p ps g : Int) (s : Bool) (st rs rr sq : Int) (ao : Option Addr) (cap : Nat) (l : List Int) (tq tr th tsq ta tl tst ti : Int) (tao : Option Addr) (tcap : Nat) (tk : List Int) (js jp jc cq cr_ cm ch_ : Int) (cao : Option Addr) (ccap : Nat) (ce : List Ey) (bq br_ bs : Int) (xs : Array Value) (hxs : xs = px kd to dq dr ds dn dt k o lf i p ps g s st rs rr sq ao cap l tq tr th tsq ta tl tst ti tao tcap tk js jp jc cq cr_ cm ch_ cao ccap ce bq br_ bs) (w : World) (hs : Sl w (.slice ao l.length cap) l) (ht : Cr.Sl w (.slice tao tk.length tcap) tk) (hti : ∀ x ∈ tk, -9223372036854775808 ≤ x ∧ x ≤ 9223372036854775807)
    (he : SlE w (.slice cao ce.length ccap) ce) (hjp : -9223372036854775808 ≤ jp ∧ jp ≤ 9223372036854775807) (hcm : -9223372036854775808 ≤ cm ∧ cm ≤ 9223372036854775807) (hch : ch_ ≤ 9223372036854775807) :
    Calls Try.prog 41 #[.agg xs] w fun e w' => ∃ v1, e = .returned (.tuple #[v1, .int .i64 (pchk ⟨kd, to, ⟨dq, dr, ds, dn, dt, ⟨k, o, lf, i, p, ps, g, s, st, rs, rr, sq, l⟩⟩, ⟨tq, tr, th, tsq, ta, tl, tst, ti, tk⟩, ⟨js, jp, jc⟩, ⟨cq, cr_, cm, ch_, ce⟩, ⟨bq, br_, bs⟩⟩)]) ∧ Mod (fun _ => False) w w' ∧
      (pchk ⟨kd, to, ⟨dq, dr, ds, dn, dt, ⟨k, o, lf, i, p, ps, g, s, st, rs, rr, sq, l⟩⟩, ⟨tq, tr, th, tsq, ta, tl, tst, ti, tk⟩, ⟨js, jp, jc⟩, ⟨cq, cr_, cm, ch_, ce⟩, ⟨bq, br_, bs⟩⟩ = 0 → Own w' v1 (Sm.sealed (pby ⟨kd, to, ⟨dq, dr, ds, dn, dt, ⟨k, o, lf, i, p, ps, g, s, st, rs, rr, sq, l⟩⟩, ⟨tq, tr, th, tsq, ta, tl, tst, ti, tk⟩, ⟨js, jp, jc⟩, ⟨cq, cr_, cm, ch_, ce⟩, ⟨bq, br_, bs⟩⟩)) ∧ (∀ g, v1.ownBlock = some g → w.heap.size ≤ g)) ∧ (pchk ⟨kd, to, ⟨dq, dr, ds, dn, dt, ⟨k, o, lf, i, p, ps, g, s, st, rs, rr, sq, l⟩⟩, ⟨tq, tr, th, tsq, ta, tl, tst, ti, tk⟩, ⟨js, jp, jc⟩, ⟨cq, cr_, cm, ch_, ce⟩, ⟨bq, br_, bs⟩⟩ ≠ 0 → v1 = .slice none 0 0) := by
  have hM : Mod (fun _ => False) w (w.alloc (.cells xs 76)) := (Mod.refl (fun _ => False) w).alloc _
  have hBk := Bk.new w xs 76
  have hsx : xs.size = 40 := by rw [hxs]; rfl
  have HC := pCheck_any kd to dq dr ds dn dt k o lf i p ps g s st rs rr sq ao cap l tq tr th tsq ta tl tst ti tao tcap tk js jp jc cq cr_ cm ch_ cao ccap ce bq br_ bs xs hxs (w.alloc (.cells xs 76)) (hs.mod hM (fun _ _ h => h)) (Cr.Sl.mod ht hM (fun _ _ h => h)) hti (he.mod hM (fun _ _ _ h => h)) hjp hcm hch
  have hl1 : l ≠ [] → ∀ g, (Value.slice ao l.length cap).ownBlock = some g → g < w.heap.size := hs.lt
  have hl2 : tk ≠ [] → ∀ g, (Value.slice tao tk.length tcap).ownBlock = some g → g < w.heap.size := ht.lt
  have hl3 : ce ≠ [] → ∀ g, (Value.slice cao ce.length ccap).ownBlock = some g → g < w.heap.size := he.lt
  have HP := fun (W : World) (q pw pb : Nat) (v : Value) (hW : Mod (fun _ => False) w W) (hB : Bk W pb 76 xs) (hc : Cw W q pw) (h : Wr W pw v []) (hq : q ≠ pw ∧ v.ownBlock ≠ some q) (hr : pb ≠ pw ∧ v.ownBlock ≠ some pb) (hx : w.heap.size ≤ pw) (hv : v.ownBlock = none) (hk : pchk ⟨kd, to, ⟨dq, dr, ds, dn, dt, ⟨k, o, lf, i, p, ps, g, s, st, rs, rr, sq, l⟩⟩, ⟨tq, tr, th, tsq, ta, tl, tst, ti, tk⟩, ⟨js, jp, jc⟩, ⟨cq, cr_, cm, ch_, ce⟩, ⟨bq, br_, bs⟩⟩ = 0) =>
    packet_w q pw v [] pb kd to dq dr ds dn dt k o lf i p ps g s st rs rr sq ao cap l tq tr th tsq ta tl tst ti tao tcap tk js jp jc cq cr_ cm ch_ cao ccap ce bq br_ bs xs hxs W hB hc h hq hr (by simp) (hs.mod hW (fun _ _ h => h)) (fun hne g hg => ⟨by have := hl1 hne g hg; omega, by rw [hv]; simp⟩) (Cr.Sl.mod ht hW (fun _ _ h => h)) (fun hne g hg => ⟨by have := hl2 hne g hg; omega, by rw [hv]; simp⟩) (he.mod hW (fun _ _ _ h => h)) (fun hne g hg => ⟨by have := hl3 hne g hg; omega, by rw [hv]; simp⟩) hk
  have HL : pchk ⟨kd, to, ⟨dq, dr, ds, dn, dt, ⟨k, o, lf, i, p, ps, g, s, st, rs, rr, sq, l⟩⟩, ⟨tq, tr, th, tsq, ta, tl, tst, ti, tk⟩, ⟨js, jp, jc⟩, ⟨cq, cr_, cm, ch_, ce⟩, ⟨bq, br_, bs⟩⟩ = 0 → (pby ⟨kd, to, ⟨dq, dr, ds, dn, dt, ⟨k, o, lf, i, p, ps, g, s, st, rs, rr, sq, l⟩⟩, ⟨tq, tr, th, tsq, ta, tl, tst, ti, tk⟩, ⟨js, jp, jc⟩, ⟨cq, cr_, cm, ch_, ce⟩, ⟨bq, br_, bs⟩⟩).length ≤ 508 := fun h => pby_len h
  have HR : Hid (∀ c ∈ pby ⟨kd, to, ⟨dq, dr, ds, dn, dt, ⟨k, o, lf, i, p, ps, g, s, st, rs, rr, sq, l⟩⟩, ⟨tq, tr, th, tsq, ta, tl, tst, ti, tk⟩, ⟨js, jp, jc⟩, ⟨cq, cr_, cm, ch_, ce⟩, ⟨bq, br_, bs⟩⟩, 0 ≤ c ∧ c ≤ 255) := pby_rng hs.rng
  generalize pby ⟨kd, to, ⟨dq, dr, ds, dn, dt, ⟨k, o, lf, i, p, ps, g, s, st, rs, rr, sq, l⟩⟩, ⟨tq, tr, th, tsq, ta, tl, tst, ti, tk⟩, ⟨js, jp, jc⟩, ⟨cq, cr_, cm, ch_, ce⟩, ⟨bq, br_, bs⟩⟩ = Q at HP HL HR ⊢
  generalize pchk ⟨kd, to, ⟨dq, dr, ds, dn, dt, ⟨k, o, lf, i, p, ps, g, s, st, rs, rr, sq, l⟩⟩, ⟨tq, tr, th, tsq, ta, tl, tst, ti, tk⟩, ⟨js, jp, jc⟩, ⟨cq, cr_, cm, ch_, ce⟩, ⟨bq, br_, bs⟩⟩ = E at HC HP HL ⊢
  clear hl1 hl2 hl3 hs ht he hti hjp hcm hch hxs
  by_cases hc : E = 0
  case neg =>
    have hen : (E != 0) = true := by simp [hc]
    clear HP HL
    go_enter Try.func41, Try.ntmps41
    go_wp2_with (refine wpList_load_row info40 Try.underlying76 rfl rfl _ rfl w.heap.size rfl (Bk.new w xs _) hsx ?_; simp only [Act.put, List.setIfInBounds_toArray, List.set_cons_succ, List.set_cons_zero])
    refine HC.mono ?_
    rintro e w1 ⟨rfl, hm1⟩
    go_wp2
    go_ret2
    exact ⟨_, rfl, hM.trans hm1 (V := fun _ => False) (fun _ _ h => h) (fun _ _ h => h), fun h => absurd h hc, fun _ => rfl⟩
  case pos =>
    subst hc
    have HQ : Hid (Q.length ≤ 508) := HL rfl
    have HP' : Hid (∀ (W : World) (q pw pb : Nat) (v : Value), Mod (fun _ => False) w W → Bk W pb 76 xs → Cw W q pw → Wr W pw v [] → (q ≠ pw ∧ v.ownBlock ≠ some q) → (pb ≠ pw ∧ v.ownBlock ≠ some pb) → w.heap.size ≤ pw → v.ownBlock = none → Calls Try.prog 73 #[.pointer (some ⟨q, 0, none⟩), .pointer (some ⟨pb, 0, none⟩)] W fun e w' => e = .returned (.tuple #[]) ∧ ∃ v', Wr w' pw v' ([] ++ Q) ∧ Mod (fun k => k = pw ∨ v.ownBlock = some k) W w' ∧ Fr W v v') := fun W q pw pb v a1 a2 a3 a4 a5 a6 a7 a8 => HP W q pw pb v a1 a2 a3 a4 a5 a6 a7 a8 rfl
    clear HP HL
    go_enter Try.func41, Try.ntmps41
    go_wp2_with (refine wpList_load_row info40 Try.underlying76 rfl rfl _ rfl w.heap.size rfl (Bk.new w xs _) hsx ?_; simp only [Act.put, List.setIfInBounds_toArray, List.set_cons_succ, List.set_cons_zero])
    refine HC.mono ?_
    rintro e w1 ⟨rfl, hm1⟩
    have hA1 := hM.trans hm1 (V := fun _ => False) (fun _ _ h => h) (fun _ _ h => h)
    have hsz1 : w.heap.size < w1.heap.size := by have := hm1.size; simp at this; omega
    have hB1 := hBk.mod hm1 (fun h => h)
    clear HC hm1 hM hBk
    go_wp2_with (fail)
    refine (write_any _).mono ?_
    rintro e w2 ⟨rfl, hw2, hm2⟩
    have hA2 := hA1.trans hm2 (V := fun _ => False) (fun _ _ h => h) (fun _ _ h => h)
    have hB2 := hB1.mod hm2 (fun h => h)
    have hp2 := lt_of_block hw2.blk
    go_wp2_with (fail)
    have hM3 := (Mod.refl (fun _ => False) w2).alloc (.cells #[.pointer (some ⟨w1.heap.size, 0, none⟩), .pointer none, .int .i64 0] 114)
    have hA3 := hA2.trans hM3 (V := fun _ => False) (fun _ _ h => h) (fun _ _ h => h)
    have hs2 := hm2.size
    have hc3 : Cw (w2.alloc (.cells #[.pointer (some ⟨w1.heap.size, 0, none⟩), .pointer none, .int .i64 0] 114)) w2.heap.size w1.heap.size := ⟨heap_alloc_new w2 _⟩
    have hc3' := hc3
    have hw3 := hw2.mod hM3 (fun h => h) (fun _ _ h => h)
    refine (HP'.out _ w2.heap.size w1.heap.size w.heap.size (.slice none 0 0) hA3 (hB2.mod hM3 (fun h => h)) hc3 hw3 ⟨by omega, by simp [Value.ownBlock]⟩ ⟨by omega, by simp [Value.ownBlock]⟩ (by omega) rfl).mono ?_
    rintro e w4 ⟨rfl, v4, hw4, hm4, hf4⟩
    rw [List.nil_append] at hw4
    have hA4 : Mod (fun _ => False) w w4 := hA3.trans hm4 (fun _ _ h => h) (by rintro q hq (h | h); omega; simp [Value.ownBlock] at h)
    have hc4 := hc3'.mod hm4 (by rintro (h | h); omega; simp [Value.ownBlock] at h)
    have c0 := hc4.c0
    clear hc3 hc3' hm4 hf4 HP' hA3 hM3 hw3 hw2 hB1 hB2
    go_wp2_with (fail)
    refine (Bytes_any w1.heap.size v4 Q w4 hw4 (by have := HQ.out; omega)).mono ?_
    rintro e w5 ⟨v5, rfl, ho5, hm5, hf5⟩
    have hA5 := hA4.trans hm5 (V := fun _ => False) (fun _ _ h => h) (fun _ _ h => h)
    go_wp2_with (fail)
    refine (Sm.Seal_any v5 Q w5 (ho5.sl HR.out) (by have := HQ.out; omega)).mono ?_
    rintro e w6 ⟨v6, rfl, ho6, hm6, hf6⟩
    go_wp2
    go_ret2
    exact ⟨_, rfl, hA5.trans hm6 (V := fun _ => False) (fun _ _ h => h) (fun _ _ h => h), fun _ => ⟨ho6, fun g hg => by have := hf6 g hg; have := hA5.size; omega⟩, fun h => absurd rfl h⟩
end Go.Proofs.Ytajhpnfpjickbaa
namespace Go.Proofs.Ytajhpnfpjickbaa
open Go.RowKit
/-- A coder at block q that reads from the reader at pr, with the error E. -/
structure Co (w : World) (q pr : Nat) (E : Int) : Prop where
  blk : w.heap[q]? = some (.cells #[.pointer none, .pointer (some ⟨pr, 0, none⟩), .int .i64 E] 114 (0, 0))
theorem Co.mod {S : Nat → Prop} {w w' : World} {q pr : Nat} {E : Int} (h : Co w q pr E) (hm : Mod S w w') (hq : ¬ S q) : Co w' q pr E := ⟨hm.obj h.blk hq⟩
theorem Co.c0 {w : World} {q pr : Nat} {E : Int} (h : Co w q pr E) : w.cell? ⟨q, 0, none⟩ = some (.pointer none) := by simp [World.cell?, h.blk]
theorem Co.c1 {w : World} {q pr : Nat} {E : Int} (h : Co w q pr E) : w.cell? ⟨q, 1, none⟩ = some (.pointer (some ⟨pr, 0, none⟩)) := by simp [World.cell?, h.blk]
theorem Co.c2 {w : World} {q pr : Nat} {E : Int} (h : Co w q pr E) : w.cell? ⟨q, 2, none⟩ = some (.int .i64 E) := by simp [World.cell?, h.blk]
theorem Co.frz {w : World} {q pr : Nat} {E : Int} (h : Co w q pr E) (j : Nat) : w.frozen? ⟨q, j, none⟩ = false := by simp [World.frozen?, h.blk]
theorem Co.set {w : World} {q pr : Nat} {E : Int} (h : Co w q pr E) (F : Int) : Co (w.setCell ⟨q, 2, none⟩ (.int .i64 F)) q pr F := ⟨by
  simp [World.setCell, Array.getElem?_modify, h.blk]⟩
theorem Co.other {w : World} {q pr : Nat} {E : Int} (h : Co w q pr E) (a : Addr) (v : Value) (ha : a.block ≠ q) : Co (w.setCell a v) q pr E := ⟨by
  simp [World.setCell, Array.getElem?_modify, h.blk, ha]⟩
theorem reads_r (q pr : Nat) (E : Int) (w : World) (h : Co w q pr E) : Calls Try.prog 127 #[.pointer (some ⟨q, 0, none⟩)] w fun e w' => e = .returned (.bool true) ∧ w' = w := by
  have c1 := h.c1
  go_enter Try.func127, Try.ntmps127
  go_wp2
  go_ret
  exact ⟨rfl, rfl⟩
theorem fail_r0 (q pr : Nat) (F : Int) (w : World) (h : Co w q pr 0) : Calls Try.prog 102 #[.pointer (some ⟨q, 0, none⟩), .int .i64 F] w fun e w' => e = .returned (.tuple #[]) ∧ w' = w.setCell ⟨q, 2, none⟩ (.int .i64 F) := by
  have c2 := h.c2
  have f2 := h.frz 2
  go_enter Try.func102, Try.ntmps102
  go_wp2
  go_end0
  exact ⟨rfl, rfl⟩
theorem fail_r1 (q pr : Nat) (E F : Int) (hE : E ≠ 0) (w : World) (h : Co w q pr E) : Calls Try.prog 102 #[.pointer (some ⟨q, 0, none⟩), .int .i64 F] w fun e w' => e = .returned (.tuple #[]) ∧ w' = w := by
  have c2 := h.c2
  have he : (E == 0) = false := by simp [hE]
  go_enter Try.func102, Try.ntmps102
  go_wp2
  go_end0
  exact ⟨rfl, rfl⟩
theorem number_r1 (q pr : Nat) (E : Int) (v : Value) (hE : E ≠ 0) (w : World) (h : Co w q pr E) : Calls Try.prog 100 #[.pointer (some ⟨q, 0, none⟩), v] w fun e w' => e = .returned (.tuple #[]) ∧ w' = w := by
  have c2 := h.c2
  have he : (E != 0) = true := by simp [hE]
  go_enter Try.func100, Try.ntmps100
  go_wp2
  go_end0
  exact ⟨rfl, rfl⟩
set_option maxHeartbeats 1000000 in
theorem number_r (q pr : Nat) (v : Value) (l : List Int) (b off : Nat) (t : TypeId) (xs : Array Value) (x : Int) (w : World) (h : Co w q pr 0) (hr : Rd w pr v l) (hB : Bk w b t xs) (hx : xs[off]? = some (.int .i64 x)) (hn : q ≠ pr ∧ b ≠ pr ∧ b ≠ q) :
    Calls Try.prog 100 #[.pointer (some ⟨q, 0, none⟩), .pointer (some ⟨b, off, none⟩)] w fun e w' => e = .returned (.tuple #[]) ∧ ∃ w1 v', Mod (fun k => k = pr) w w1 ∧ Rd w1 pr v' (l.drop (num 0 0 l).2.1.toNat) ∧ (∀ g, v'.ownBlock = some g → v.ownBlock = some g) ∧
      w' = (w1.setCell ⟨b, off, none⟩ (.int .i64 (num 0 0 l).1)).setCell ⟨q, 2, none⟩ (.int .i64 (num 0 0 l).2.2) := by
  have c1 := h.c1
  have c2 := h.c2
  have HR := reads_r q pr 0 w h
  have HG := Get_any pr v l w hr
  generalize (num 0 0 l).1 = N at HG ⊢
  generalize (num 0 0 l).2.2 = F at HG ⊢
  generalize l.drop (num 0 0 l).2.1.toNat = l' at HG ⊢
  go_enter Try.func100, Try.ntmps100
  go_wp2_with (fail)
  refine HR.mono ?_
  rintro e w' ⟨rfl, rfl⟩
  go_wp2_with (fail)
  refine HG.mono ?_
  rintro e w1 ⟨rfl, v1, hr1, hm1, hf1⟩
  have h1 := h.mod hm1 (fun h => hn.1 h)
  have hB1 := hB.mod hm1 (fun h => hn.2.1 h)
  have a1 := hB1.cellv hx
  have a2 := hB1.frz off
  have a3 := h1.c2
  have a4 := h1.frz 2
  have h2 := h1.other ⟨b, off, none⟩ (.int .i64 N) hn.2.2
  have a5 := h2.c2
  have a6 := h2.frz 2
  clear HR c1 c2
  go_wp2
  go_end0
  exact ⟨rfl, w1, v1, hm1, hr1, hf1, rfl⟩
end Go.Proofs.Ytajhpnfpjickbaa
namespace Go.Proofs.Ytajhpnfpjickbaa
open Go.RowKit
/-- Where reading n numbers into the cells from off on stands behind j of them. -/
structure Nst (w : World) (q pr b : Nat) (t : TypeId) (xs : Array Value) (off n : Nat) (v : Value) (l : List Int) (j : Nat) (xs' : Array Value) (v' : Value) (l' d : List Int) (E : Int) (wr : World) : Prop where
  co : Co wr q pr E
  rd : Rd wr pr v' l'
  own : ∀ g, v'.ownBlock = some g → v.ownBlock = some g
  bk : Bk wr b t xs'
  size : xs'.size = xs.size
  out : ∀ k, (k < off ∨ off + j ≤ k) → xs'[k]? = xs[k]?
  ok : E = 0 → d.length = j ∧ rdv n l = d ++ rdv (n - j) l' ∧ rde n l = rde (n - j) l' ∧ rdr n l = rdr (n - j) l' ∧ ∀ k, k < j → xs'[off + k]? = some (.int .i64 (d.getD k 0))
  bad : E ≠ 0 → rde n l = E
  mod : Mod (fun k => k = pr ∨ k = q ∨ k = b) w wr
theorem Nst.start {w : World} {q pr b : Nat} {t : TypeId} {xs : Array Value} {off n : Nat} {v : Value} {l : List Int} (h : Co w q pr 0) (hr : Rd w pr v l) (hB : Bk w b t xs) : Nst w q pr b t xs off n v l 0 xs v l [] 0 w :=
  ⟨h, hr, fun _ h => h, hB, rfl, fun _ _ => rfl, fun _ => ⟨rfl, rfl, rfl, rfl, fun _ h => absurd h (by omega)⟩, fun h => absurd rfl h, Mod.refl _ _⟩
theorem Nst.skip {w : World} {q pr b : Nat} {t : TypeId} {xs : Array Value} {off n : Nat} {v : Value} {l : List Int} {j : Nat} {xs' : Array Value} {v' : Value} {l' d : List Int} {E : Int} {wr : World} (h : Nst w q pr b t xs off n v l j xs' v' l' d E wr) (hE : E ≠ 0) : Nst w q pr b t xs off n v l (j + 1) xs' v' l' d E wr :=
  ⟨h.co, h.rd, h.own, h.bk, h.size, fun k hk => h.out k (by omega), fun e => absurd e hE, h.bad, h.mod⟩
theorem Nst.step {w : World} {q pr b : Nat} {t : TypeId} {xs : Array Value} {off n : Nat} {v : Value} {l : List Int} {j : Nat} {xs' : Array Value} {v' : Value} {l' d : List Int} {wr : World} (h : Nst w q pr b t xs off n v l j xs' v' l' d 0 wr) (hj : j < n) (hof : off + n ≤ xs.size) (hn : q ≠ pr ∧ b ≠ pr ∧ b ≠ q) (hv : v.ownBlock ≠ some q ∧ v.ownBlock ≠ some b)
    {w1 : World} {v1 : Value} (hm : Mod (fun k => k = pr) wr w1) (hr : Rd w1 pr v1 (l'.drop (num 0 0 l').2.1.toNat)) (ho : ∀ g, v1.ownBlock = some g → v'.ownBlock = some g) :
    Nst w q pr b t xs off n v l (j + 1) (xs'.setIfInBounds (off + j) (.int .i64 (num 0 0 l').1)) v1 (l'.drop (num 0 0 l').2.1.toNat) (d ++ [(num 0 0 l').1]) (num 0 0 l').2.2 ((w1.setCell ⟨b, off + j, none⟩ (.int .i64 (num 0 0 l').1)).setCell ⟨q, 2, none⟩ (.int .i64 (num 0 0 l').2.2)) := by
  obtain ⟨o1, o2, o3, o4, o5⟩ := h.ok rfl
  have hm1 : Mod (fun k => k = q ∨ k = b) w1 ((w1.setCell ⟨b, off + j, none⟩ (.int .i64 (num 0 0 l').1)).setCell ⟨q, 2, none⟩ (.int .i64 (num 0 0 l').2.2)) := ((Mod.refl _ w1).setCell _ _ (.inl (.inr rfl))).setCell _ _ (.inl (.inl rfl))
  have hco := h.co.mod hm (fun e => hn.1 e)
  have hbk := h.bk.mod hm (fun e => hn.2.1 e)
  obtain ⟨m, hm'⟩ : ∃ m, n - j = m + 1 := ⟨n - j - 1, by omega⟩
  have hm2 : n - (j + 1) = m := by omega
  refine ⟨(hco.other _ _ hn.2.2).set _, hr.mod hm1 (fun e => e.elim (fun e => hn.1 e.symm) (fun e => hn.2.1 e.symm)) ?_, fun g hg => h.own g (ho g hg), (hbk.set _ _).other _ _ (fun e => hn.2.2 e.symm), ?_, ?_, ?_, ?_, ?_⟩
  · rintro g hg (e | e)
    · exact hv.1 (e ▸ h.own g (ho g hg))
    · exact hv.2 (e ▸ h.own g (ho g hg))
  · rw [Array.size_setIfInBounds]; exact h.size
  · intro k hk
    rw [Array.getElem?_setIfInBounds_ne (by omega)]
    exact h.out k (by omega)
  · intro hE
    rw [hm'] at o2 o3 o4
    rw [hm2]
    refine ⟨by rw [List.length_append, o1]; rfl, ?_, ?_, ?_, ?_⟩
    · rw [o2, rdv, if_pos hE, List.append_assoc]; rfl
    · rw [o3, rde, if_pos hE]
    · rw [o4, rdr, if_pos hE]
    · intro k hk
      by_cases hkj : k = j
      · subst hkj
        rw [Array.getElem?_setIfInBounds_self_of_lt (by rw [h.size]; omega), List.getD_eq_getElem?_getD, List.getElem?_append_right (by omega), o1, Nat.sub_self]
        rfl
      · rw [Array.getElem?_setIfInBounds_ne (by omega), o5 k (by omega), List.getD_eq_getElem?_getD, List.getD_eq_getElem?_getD, List.getElem?_append_left (by omega)]
  · intro hE
    rw [hm'] at o3
    rw [o3, rde, if_neg hE]
  · exact (h.mod.trans hm (fun _ _ h => h) (fun _ _ h => .inl h)).trans hm1 (fun _ _ h => h) (fun _ _ h => .inr h)
theorem Nst.world {w : World} {q pr b : Nat} {t : TypeId} {xs : Array Value} {off n : Nat} {v : Value} {l : List Int} {j : Nat} {xs' : Array Value} {v' : Value} {l' d : List Int} {E : Int} {wr w1 : World} (h : Nst w q pr b t xs off n v l j xs' v' l' d E wr) (hm : Mod (fun _ => False) wr w1) : Nst w q pr b t xs off n v l j xs' v' l' d E w1 :=
  ⟨h.co.mod hm (fun h => h), h.rd.mod hm (fun h => h) (fun _ _ h => h), h.own, h.bk.mod hm (fun h => h), h.size, h.out, h.ok, h.bad, h.mod.trans hm (fun _ _ h => h) (fun _ _ h => h.elim)⟩
/-- The end: the error is that of all. -/
theorem Nst.done {w : World} {q pr b : Nat} {t : TypeId} {xs : Array Value} {off n : Nat} {v : Value} {l : List Int} {xs' : Array Value} {v' : Value} {l' d : List Int} {E : Int} {wr : World} (h : Nst w q pr b t xs off n v l n xs' v' l' d E wr) : E = rde n l ∧ (E = 0 → l' = rdr n l ∧ ∀ k, k < n → xs'[off + k]? = some (.int .i64 ((rdv n l).getD k 0))) := by
  by_cases hE : E = 0
  · obtain ⟨o1, o2, o3, o4, o5⟩ := h.ok hE
    rw [Nat.sub_self] at o2 o3 o4
    refine ⟨by rw [o3, hE]; rfl, fun _ => ⟨by rw [o4]; rfl, ?_⟩⟩
    rw [o2]
    simpa [rdv] using o5
  · exact ⟨(h.bad hE).symm, fun e => absurd e hE⟩
theorem numbers_step (w : World) (q pr b : Nat) (t : TypeId) (xs : Array Value) (off n : Nat) (v : Value) (l : List Int) (j : Nat) (xs0 : Array Value) (v0 : Value) (l0 d0 : List Int) (E0 : Int) (wa w0 : World) (h : Nst w q pr b t xs off n v l j xs0 v0 l0 d0 E0 w0) (hm : Mod (fun k => k = pr ∨ k = q ∨ k = b) wa w0) (hj : j < n) (hof : off + n ≤ xs.size) (hx : ∀ k, k < n → ∃ x, xs[off + k]? = some (.int .i64 x)) (hn : q ≠ pr ∧ b ≠ pr ∧ b ≠ q) (hv : v.ownBlock ≠ some q ∧ v.ownBlock ≠ some b) :
    Calls Try.prog 100 #[.pointer (some ⟨q, 0, none⟩), .pointer (some ⟨b, off + j, none⟩)] w0 fun e w' => e = .returned (.tuple #[]) ∧ ∃ xs' v' l' d E, Mod (fun k => k = pr ∨ k = q ∨ k = b) wa w' ∧ Nst w q pr b t xs off n v l (j + 1) xs' v' l' d E w' := by
  by_cases hE : E0 = 0
  · subst hE
    obtain ⟨x, hxj⟩ := hx j hj
    rw [← h.out (off + j) (by omega)] at hxj
    refine (number_r q pr v0 l0 b (off + j) t xs0 x w0 h.co h.rd h.bk hxj hn).mono ?_
    rintro e w2 ⟨rfl, w1, v1, hm1, hr1, ho1, rfl⟩
    exact ⟨rfl, _, _, _, _, _, ((hm.trans hm1 (fun _ _ h => h) (fun _ _ h => .inl h)).setCell _ _ (.inl (.inr (.inr rfl)))).setCell _ _ (.inl (.inr (.inl rfl))), h.step hj hof hn hv hm1 hr1 ho1⟩
  · refine (number_r1 q pr E0 _ hE w0 h.co).mono ?_
    rintro e w2 ⟨rfl, rfl⟩
    exact ⟨rfl, _, _, _, _, _, hm, h.skip hE⟩
set_option maxRecDepth 100000 in
set_option maxHeartbeats 1000000 in
theorem numbers_c (m : Nat) (pb cap : Nat) (w : World) (q pr b : Nat) (t : TypeId) (xs : Array Value) (off n : Nat) (v : Value) (l : List Int) (j : Nat) (xs0 : Array Value) (v0 : Value) (l0 d0 : List Int) (E0 : Int) (w0 : World) (h : Nst w q pr b t xs off n v l j xs0 v0 l0 d0 E0 w0) (hj : j + m ≤ n) (hof : off + n ≤ xs.size) (hx : ∀ k, k < n → ∃ x, xs[off + k]? = some (.int .i64 x)) (hn : q ≠ pr ∧ b ≠ pr ∧ b ≠ q) (hv : v.ownBlock ≠ some q ∧ v.ownBlock ≠ some b)
    (hpb : ∀ k, k < m → w0.cell? ⟨pb, k, none⟩ = some (.pointer (some ⟨b, off + (j + k), none⟩))) (hp : pb ≠ pr ∧ pb ≠ q ∧ pb ≠ b) (hn1 : m ≤ 1000) :
    Calls Try.prog 105 #[.pointer (some ⟨q, 0, none⟩), .slice (some ⟨pb, 0, none⟩) m cap] w0 fun e w' => e = .returned (.tuple #[]) ∧ ∃ xs' v' l' d E, Nst w q pr b t xs off n v l (j + m) xs' v' l' d E w' := by
  go_enter Try.func105, Try.ntmps105
  go_wp2
  go_loopw [8] (fun i wr => ∃ (k : Nat) (xs' : Array Value) (v' : Value) (l' d : List Int) (E : Int), i = .int .i64 k ∧ k ≤ m ∧ Mod (fun k => k = pr ∨ k = q ∨ k = b) w0 wr ∧ Nst w q pr b t xs off n v l (j + k) xs' v' l' d E wr) (fun i _ => m - (intOf i).toNat)
  case atStart => exact ⟨0, xs0, v0, l0, d0, E0, rfl, by omega, Mod.refl _ _, h⟩
  case round =>
    obtain ⟨k, xs', v', l', d, E, rfl, hk, hm, hN⟩ := hrel
    clear h
    by_cases hlt : k < m
    · have hpj := hm.cell (hpb k hlt) (by rintro (h | h | h); exact hp.1 h; exact hp.2.1 h; exact hp.2.2 h)
      have hji : (k : Int) < m := by omega
      have HN := numbers_step w q pr b t xs off n v l (j + k) xs' v' l' d E w0 wr hN hm (by omega) hof hx hn hv
      clear hN hx hpb hm
      go_wp2_with (fail)
      refine HN.mono ?_
      rintro e w2 ⟨rfl, xs2, v2, l2, d2, E2, hm2, hN2⟩
      go_wp2
      go_roundw
      case rel => exact ⟨k + 1, _, _, _, _, _, by go_num, by omega, hm2, hN2⟩
      case measure => simp [intOf]; omega
    · obtain rfl : k = m := by omega
      clear hx hpb
      go_wp2
      go_end0
      exact ⟨rfl, xs', v', l', d, E, hN⟩
end Go.Proofs.Ytajhpnfpjickbaa
