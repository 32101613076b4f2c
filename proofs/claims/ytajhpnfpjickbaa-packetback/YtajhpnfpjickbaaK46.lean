/- Contracts of packet's coder that reads: how many there are, and each of a list. Conditions: blocks apart. -/
import Derived.Test.YtajhpnfpjickbaaK45
namespace Go.Proofs.Ytajhpnfpjickbaa
open Go.RowKit
/-- What is wrong with a list of at most so many, each of s numbers. -/
def lE (most s : Nat) (l : List Int) : Int := if rde 1 l ≠ 0 then rde 1 l else if most < gN l then 5 else rde (gN l * s) (rdr 1 l)
/-- What is left when a list was read. -/
def LPost (q pr b off : Nat) (t : TypeId) (xs : Array Value) (v : Value) (l : List Int) (most s : Nat) (et : TypeId) (w w' : World) : Prop := ∃ E hdr v' l', Co w' q pr E ∧ E = lE most s l ∧ Rd w' pr v' l' ∧ (∀ g, v'.ownBlock = some g → v.ownBlock = some g) ∧ Bk w' b t (xs.setIfInBounds off hdr) ∧ Mod (fun k => k = pr ∨ k = q ∨ k = b) w w' ∧
  (E = 0 → l' = rdr (gN l * s) (rdr 1 l) ∧ ∃ B2 ys, hdr = .slice (some ⟨B2, 0, none⟩) (gN l) (gN l) ∧ w.heap.size ≤ B2 ∧ gN l ≤ most ∧ Bk w' B2 et ys ∧ ys.size = gN l * s ∧ ∀ k, k < gN l * s → ys[k]? = some (.int .i64 ((rdv (gN l * s) (rdr 1 l)).getD k 0)))
theorem rd1 (l : List Int) : (rde 1 l = (num 0 0 l).2.2) ∧ ((num 0 0 l).2.2 = 0 → gN l = (num 0 0 l).1.toNat ∧ rdr 1 l = l.drop (num 0 0 l).2.1.toNat) := by
  by_cases h : (num 0 0 l).2.2 = 0
  · refine ⟨by rw [rde, if_pos h, rde, h], fun _ => ⟨?_, by rw [rdr, if_pos h, rdr]⟩⟩
    rw [gN, rdv, if_pos h]
    simp
  · exact ⟨by rw [rde, if_neg h], fun e => absurd e h⟩
/-- How many there are, read into a variable. -/
theorem cnt_r (q pr : Nat) (v : Value) (l : List Int) (w : World) (h : Co w q pr 0) (hr : Rd w pr v l) (hq : q ≠ pr) (hv : ∀ g, v.ownBlock = some g → g < w.heap.size ∧ g ≠ q) :
    Calls Try.prog 100 #[.pointer (some ⟨q, 0, none⟩), .pointer (some ⟨w.heap.size, 0, none⟩)] (w.alloc (.cells #[.int .i64 0] 3)) fun e w' => e = .returned (.tuple #[]) ∧ ∃ v', Co w' q pr (num 0 0 l).2.2 ∧ Rd w' pr v' (l.drop (num 0 0 l).2.1.toNat) ∧ (∀ g, v'.ownBlock = some g → v.ownBlock = some g) ∧ w'.cell? ⟨w.heap.size, 0, none⟩ = some (.int .i64 (num 0 0 l).1) ∧ Mod (fun k => k = pr ∨ k = q) w w' ∧ w.heap.size < w'.heap.size := by
  have hA : Mod (fun _ => False) w (w.alloc (.cells #[.int .i64 0] 3)) := (Mod.refl _ w).alloc _
  have hB := Bk.new w #[.int .i64 0] 3
  have hql := lt_of_block h.blk
  have hpl := lt_of_block hr.blk
  have h1 := h.mod hA (fun h => h)
  have hr1 := hr.mod hA (fun h => h) (fun _ _ h => h)
  refine (number_r q pr v l w.heap.size 0 3 _ 0 _ h1 hr1 hB rfl ⟨hq, by omega, by omega⟩).mono ?_
  rintro e w' ⟨rfl, w1, v', hm, hr2, ho, rfl⟩
  have hB1 := hB.mod hm (by omega)
  have h2 := h1.mod hm (fun e => hq e)
  have hm1 : Mod (fun k => k = pr) w w1 := hA.trans hm (fun _ _ h => h.elim) (fun _ _ h => h)
  have hs := hm.size
  simp at hs
  have hMs : Mod (fun k => k = w.heap.size ∨ k = q) w1 ((w1.setCell ⟨w.heap.size, 0, none⟩ (.int .i64 (num 0 0 l).1)).setCell ⟨q, 2, none⟩ (.int .i64 (num 0 0 l).2.2)) := ((Mod.refl _ w1).setCell _ _ (.inl (.inl rfl))).setCell _ _ (.inl (.inr rfl))
  refine ⟨rfl, v', (h2.other _ _ (by show w.heap.size ≠ q; omega)).set _, hr2.mod hMs (by omega) (fun g hg e => by have := hv g (ho g hg); omega), ho, ?_, hm1.trans hMs (fun _ _ h => .inl h) (fun i hi h => by omega), by have := hMs.size; omega⟩
  have := ((hB1.set 0 (.int .i64 (num 0 0 l).1)).other ⟨q, 2, none⟩ (.int .i64 (num 0 0 l).2.2) (by show q ≠ w.heap.size; omega)).cellv (j := 0) (v := .int .i64 (num 0 0 l).1) rfl
  exact this
theorem madeGet1 (M k : Nat) (hk : k < M * 1) : (madeCells (.int .i64 0 : Value).cells (M * 1))[k]'(by rw [size_madeCells]; exact hk) = .int .i64 0 := by
  simp [madeCells, Value.cells, Nat.mod_one]
theorem madeGet6 (M k : Nat) (hk : k < M * 6) : (madeCells (.agg #[.int .i64 0, .int .i64 0, .int .i64 0, .int .i64 0, .int .i64 0, .int .i64 0] : Value).cells (M * 6))[k]'(by rw [size_madeCells]; exact hk) = .int .i64 0 := by
  have : k % 6 = 0 ∨ k % 6 = 1 ∨ k % 6 = 2 ∨ k % 6 = 3 ∨ k % 6 = 4 ∨ k % 6 = 5 := by omega
  rcases this with h | h | h | h | h | h <;> simp [madeCells, Value.cells, h]
set_option maxRecDepth 100000 in
set_option maxHeartbeats 2000000 in
theorem listI_r (q pr b off : Nat) (t : TypeId) (xs : Array Value) (ao : Option Addr) (cap : Nat) (v : Value) (l : List Int) (w : World) (h : Co w q pr 0) (hr : Rd w pr v l) (hB : Bk w b t xs) (hx : xs[off]? = some (.slice ao 0 cap)) (hn : q ≠ pr ∧ b ≠ pr ∧ b ≠ q) (hv : ∀ g, v.ownBlock = some g → g < w.heap.size ∧ g ≠ q ∧ g ≠ b) :
    Calls Try.prog 129 #[.pointer (some ⟨q, 0, none⟩), .pointer (some ⟨b, off, none⟩), .int .i64 16, .func (.func 100) #[] #[]] w fun e w' => e = .returned (.tuple #[]) ∧ LPost q pr b off t xs v l 16 1 3 w w' := by
  obtain ⟨i0, hi, hz0, hz1, hz2⟩ := info_parts Cr.info3
  have hql := lt_of_block h.blk
  have hpl := lt_of_block hr.blk
  have hbl := hB.lt
  have HC := cnt_r q pr v l w h hr hn.1 (fun g hg => ⟨(hv g hg).1, (hv g hg).2.1⟩)
  obtain ⟨r1, r2⟩ := rd1 l
  have hnv := num_val l 0 0
  have c0 := hB.cellv hx
  have hA : Mod (fun _ => False) w (w.alloc (.cells #[.int .i64 0] 3)) := (Mod.refl _ w).alloc _
  have c1 := hA.cell c0 (fun h => h)
  have hlt : off < xs.size := by
    rcases Nat.lt_or_ge off xs.size with h | h
    · exact h
    · rw [Array.getElem?_eq_none h] at hx; cases hx
  have hself : xs.setIfInBounds off (.slice ao 0 cap) = xs := by
    apply Array.ext_getElem?
    intro i
    by_cases e : off = i
    · subst e
      rw [Array.getElem?_setIfInBounds_self_of_lt hlt, hx]
    · rw [Array.getElem?_setIfInBounds_ne e]
  generalize (num 0 0 l).1 = N at *
  generalize hE1 : (num 0 0 l).2.2 = E1 at *
  generalize hl1 : l.drop (num 0 0 l).2.1.toNat = l1 at *
  clear h hr hE1 hl1 hA
  rcases (show (E1 = 0 ∧ (16 : Int) < N) ∨ (E1 = 0 ∧ 0 ≤ N ∧ ¬ (16 : Int) < N) ∨ (E1 ≠ 0 ∧ N = 0) from by omega) with ⟨rfl, hb1⟩ | ⟨rfl, hb0, hb1⟩ | ⟨hE, rfl⟩
  · -- too many
    have e5 : lE 16 1 l = 5 := by
      rw [lE, if_neg (by simp [r1]), (r2 rfl).1, if_pos (by omega)]
    unfold LPost
    rw [e5]
    clear r1 r2 hnv
    go_enter Try.func129, Try.ntmps129
    go_wp2_with (fail)
    refine HC.mono ?_
    rintro e w2 ⟨rfl, v1, h2, hr2, ho2, hc2, hm2, hs2⟩
    have HF := fail_r0 q pr 5 w2 h2
    clear HC
    go_wp2_with (fail)
    refine HF.mono ?_
    rintro e w3 ⟨rfl, rfl⟩
    have hM : Mod (fun k => k = q) w2 (w2.setCell ⟨q, 2, none⟩ (.int .i64 5)) := (Mod.refl _ _).setCell _ _ (.inl rfl)
    have hMM : Mod (fun k => k = pr ∨ k = q ∨ k = b) w (w2.setCell ⟨q, 2, none⟩ (.int .i64 5)) := hm2.trans hM (fun _ _ h => by omega) (fun _ _ h => by omega)
    have R : Co (w2.setCell ⟨q, 2, none⟩ (.int .i64 5)) q pr 5 ∧ Rd (w2.setCell ⟨q, 2, none⟩ (.int .i64 5)) pr v1 l1 ∧ Bk (w2.setCell ⟨q, 2, none⟩ (.int .i64 5)) b t (xs.setIfInBounds off (.slice ao 0 cap)) := ⟨h2.set 5, hr2.mod hM (by omega) (fun g hg e => by have := hv g (ho2 g hg); omega), by rw [hself]; exact (hB.mod hm2 (by omega)).mod hM (by omega)⟩
    clear h2 hr2 hB hc2
    go_wp2
    refine bodyPost_ret (v := .tuple #[]) (by simp [results, Try.results129]) rfl ?_
    exact ⟨rfl, 5, _, v1, l1, R.1, rfl, R.2.1, ho2, R.2.2, hMM, fun h => absurd h (by decide)⟩
  · -- as many as may be
    obtain ⟨M, rfl⟩ := Int.eq_ofNat_of_zero_le hb0
    have hM16 : M ≤ 16 := by omega
    have eN : gN l = M := by rw [(r2 rfl).1]; simp
    have eR : rdr 1 l = l1 := (r2 rfl).2
    have eL : lE 16 1 l = rde (M * 1) l1 := by
      rw [lE, if_neg (by simp [r1]), eN, if_neg (by omega), eR]
    unfold LPost
    rw [eL, eN, eR]
    clear r1 r2 hnv eL eN eR hself
    have hmk : ∀ W : World, (Instr.makeSlice 65 (.int .i64 (M : Int)) (.int .i64 (M : Int))).run Try.prog W = .ok (.slice (some ⟨W.heap.size, 0, none⟩) M M) (W.alloc (.cells (madeCells (.int .i64 0 : Value).cells (M * 1)) 3)) := fun W => by
      have := run_make (P := Try.prog) W 65 3 i0 _ Try.underlying65 hi hz0 .i64 .i64 (M : Int) (M : Int) (by omega) (by omega) (by rw [hz2]; omega) (by omega)
      rw [this, hz1, Int.toNat_natCast]
    have hZ : (madeCells (.int .i64 0 : Value).cells (M * 1)).size = M * 1 := by rw [size_madeCells]
    have hZx : ∀ k, k < M * 1 → ∃ x, (madeCells (.int .i64 0 : Value).cells (M * 1))[0 + k]? = some (.int .i64 x) := fun k hk => by
      rw [Nat.zero_add, Array.getElem?_eq_getElem (by rw [hZ]; exact hk)]
      exact ⟨0, by congr 1; exact madeGet1 M k hk⟩
    generalize madeCells (.int .i64 0 : Value).cells (M * 1) = Z at hmk hZ hZx
    clear hi hz0 hz1 hz2
    go_enter Try.func129, Try.ntmps129
    go_wp2_with (fail)
    refine HC.mono ?_
    rintro e w2 ⟨rfl, v1, h2, hr2, ho2, hc2, hm2, hs2⟩
    have HR := reads_r q pr 0 w2 h2
    have hB2 := hB.mod hm2 (by omega)
    have hq2 := lt_of_block h2.blk
    have hp2 := lt_of_block hr2.blk
    have hb2 := hB2.lt
    have k1 := hB2.cellv hx
    have k2 := hB2.frz off
    have hM0 : Mod (fun k => k = b) w2 ((w2.setCell ⟨b, off, none⟩ (.slice (some ⟨w2.heap.size, 0, none⟩) M M)).alloc (.cells Z 3)) := ((Mod.refl (fun k => k = b) w2).setCell ⟨b, off, none⟩ _ (.inl rfl)).alloc _
    have h3 := (h2.other ⟨b, off, none⟩ (.slice (some ⟨w2.heap.size, 0, none⟩) M M) hn.2.2).mod ((Mod.refl (fun _ => False) _).alloc (.cells Z 3)) (fun h => h)
    have hr3 := hr2.mod hM0 (by omega) (fun g hg e => by have := hv g (ho2 g hg); omega)
    have hB3 := (hB2.set off (.slice (some ⟨w2.heap.size, 0, none⟩) M M)).mod ((Mod.refl (fun _ => False) _).alloc (.cells Z 3)) (fun h => h)
    have hZ3 : Bk ((w2.setCell ⟨b, off, none⟩ (.slice (some ⟨w2.heap.size, 0, none⟩) M M)).alloc (.cells Z 3)) w2.heap.size 3 Z := by
      have := Bk.new (w2.setCell ⟨b, off, none⟩ (.slice (some ⟨w2.heap.size, 0, none⟩) M M)) Z 3
      simpa [World.setCell] using this
    have hMw : Mod (fun k => k = pr ∨ k = q ∨ k = b) w ((w2.setCell ⟨b, off, none⟩ (.slice (some ⟨w2.heap.size, 0, none⟩) M M)).alloc (.cells Z 3)) := hm2.trans hM0 (fun _ _ h => by omega) (fun _ _ h => by omega)
    have hvv : v1.ownBlock ≠ some q ∧ v1.ownBlock ≠ some w2.heap.size := ⟨fun e => by have := hv q (ho2 q e); omega, fun e => by have := hv _ (ho2 _ e); omega⟩
    have kS : ((w2.alloc (.cells Z 3)).cell? ⟨b, off, none⟩ = some (.slice ao 0 cap)) := ((Mod.refl (fun _ => False) w2).alloc _).cell k1 (fun h => h)
    have hMi : ¬ (16 : Int) < (M : Int) := by omega
    have kF : (w2.alloc (.cells Z 3)).frozen? ⟨b, off, none⟩ = false := (hB2.mod ((Mod.refl (fun _ => False) w2).alloc (.cells Z 3)) (fun h => h)).frz off
    clear HC hM0 h2 hr2 hB2 hB c0 c1
    go_wp2_with (fail)
    refine HR.mono ?_
    rintro e w2' ⟨rfl, rfl⟩
    clear HR
    have hHd := hB3.cell off
    rw [Array.getElem?_setIfInBounds_self_of_lt hlt] at hHd
    generalize hw3 : (w2'.setCell ⟨b, off, none⟩ (.slice (some ⟨w2'.heap.size, 0, none⟩) M M)).alloc (.cells Z 3) = w3 at *
    go_wp2
    first | rw [hw3] | skip
    clear hw3
    go_loopw [31] (fun i wr => ∃ (j : Nat) (xs' : Array Value) (v' : Value) (l' d : List Int) (E : Int), i = .int .i64 j ∧ j ≤ M ∧ Hid (Nst w3 q pr w2'.heap.size 3 Z 0 (M * 1) v1 l1 (j * 1) xs' v' l' d E wr)) (fun i _ => M - (intOf i).toNat)
    case atStart => exact ⟨0, _, _, _, _, _, rfl, by omega, by rw [Nat.zero_mul]; exact Nst.start h3 hr3 hZ3⟩
    case round =>
      clear h3 hr3 hZ3
      obtain ⟨j, xs', v', l', d, E, rfl, hj, hN0⟩ := hrel
      have hN := hN0.out
      have hH := hN.mod.cell hHd (by show ¬ (b = pr ∨ b = q ∨ b = w2'.heap.size); omega)
      by_cases hjM : j < M
      · have hji : (j : Int) < (M : Int) := by omega
        have HE := numbers_step w3 q pr w2'.heap.size 3 Z 0 (M * 1) v1 l1 (j * 1) xs' v' l' d E wr wr hN (Mod.refl _ _) (by omega) (by omega) hZx ⟨hn.1, by omega, by omega⟩ hvv
        rw [Nat.zero_add, Nat.mul_one j] at HE
        clear hN hN0 hZx
        go_wp2_with (fail)
        refine HE.mono ?_
        rintro e w5 ⟨rfl, xs5, v5, l5, d5, E5, _, h5⟩
        go_wp2
        go_roundw
        case rel => exact ⟨j + 1, xs5, v5, l5, d5, E5, by go_num, by omega, by rw [Nat.add_mul, Nat.one_mul, Nat.mul_one j]; exact h5⟩
        case measure => simp [intOf]; omega
      · obtain rfl : j = M := by omega
        obtain ⟨dE, dR⟩ := hN.done
        have hBF := hB3.mod hN.mod (by omega)
        have hMF := hMw.trans hN.mod (V := fun k => k = pr ∨ k = q ∨ k = b) (fun _ _ h => h) (fun i hi h => by omega)
        have R := hN
        clear hN0 hZx hH hN
        go_wp2
        go_end0
        refine ⟨rfl, E, _, v', l', R.co, dE, R.rd, fun g hg => ho2 g (R.own g hg), hBF, hMF, fun h0 => ⟨(dR h0).1, w2'.heap.size, xs', rfl, by omega, hM16, R.bk, by rw [R.size, hZ], fun k hk => ?_⟩⟩
        have := (dR h0).2 k hk
        rwa [Nat.zero_add] at this
  · -- no number
    have eE : lE 16 1 l = E1 := by rw [lE, if_pos (by rw [r1]; exact hE), r1]
    unfold LPost
    rw [eE]
    clear r1 r2 hnv hself
    have hmk : ∀ W : World, (Instr.makeSlice 65 (.int .i64 0) (.int .i64 0)).run Try.prog W = .ok (.slice (some ⟨W.heap.size, 0, none⟩) 0 0) (W.alloc (.cells #[] 3)) := fun W => by
      have := run_make (P := Try.prog) W 65 3 i0 _ Try.underlying65 hi hz0 .i64 .i64 0 0 (by omega) (by omega) (by rw [hz2]; omega) (by omega)
      rw [this]
      show Result.ok _ (W.alloc (Obj.cells (madeCells _ (0 * i0.size)) _)) = _
      rw [Nat.zero_mul, made0]
      rfl
    clear hi hz0 hz1 hz2
    go_enter Try.func129, Try.ntmps129
    go_wp2_with (fail)
    refine HC.mono ?_
    rintro e w2 ⟨rfl, v1, h2, hr2, ho2, hc2, hm2, hs2⟩
    have HR := reads_r q pr E1 w2 h2
    have hB2 := hB.mod hm2 (by omega)
    have k1 := hB2.cellv hx
    have k2 := hB2.frz off
    have hM0 : Mod (fun k => k = b) w2 ((w2.alloc (.cells #[] 3)).setCell ⟨b, off, none⟩ (.slice (some ⟨w2.heap.size, 0, none⟩) 0 0)) := ((Mod.refl (fun k => k = b) w2).alloc _).setCell ⟨b, off, none⟩ _ (.inl rfl)
    have h3 := (h2.mod ((Mod.refl (fun _ => False) _).alloc (.cells #[] 3)) (fun h => h)).other ⟨b, off, none⟩ (.slice (some ⟨w2.heap.size, 0, none⟩) 0 0) hn.2.2
    have hr3 := hr2.mod hM0 (by omega) (fun g hg e => by have := hv g (ho2 g hg); omega)
    have hB3 := (hB2.mod ((Mod.refl (fun _ => False) _).alloc (.cells #[] 3)) (fun h => h)).set off (.slice (some ⟨w2.heap.size, 0, none⟩) 0 0)
    have hMw : Mod (fun k => k = pr ∨ k = q ∨ k = b) w ((w2.alloc (.cells #[] 3)).setCell ⟨b, off, none⟩ (.slice (some ⟨w2.heap.size, 0, none⟩) 0 0)) := hm2.trans hM0 (fun _ _ h => by omega) (fun _ _ h => by omega)
    have kS : ((w2.alloc (.cells #[] 3)).cell? ⟨b, off, none⟩ = some (.slice ao 0 cap)) := ((Mod.refl (fun _ => False) w2).alloc _).cell k1 (fun h => h)
    have kF : (w2.alloc (.cells #[] 3)).frozen? ⟨b, off, none⟩ = false := (hB2.mod ((Mod.refl (fun _ => False) w2).alloc (.cells #[] 3)) (fun h => h)).frz off
    clear HC hM0 h2 hr2 hB2 hB c0 c1
    go_wp2_with (fail)
    refine HR.mono ?_
    rintro e w2' ⟨rfl, rfl⟩
    clear HR
    have hHd := hB3.cell off
    rw [Array.getElem?_setIfInBounds_self_of_lt hlt] at hHd
    generalize hw3 : (w2'.alloc (.cells #[] 3)).setCell ⟨b, off, none⟩ (.slice (some ⟨w2'.heap.size, 0, none⟩) 0 0) = w3 at *
    go_wp2
    first | rw [hw3] | skip
    clear hw3
    go_loopw [31] (fun i wr => i = .int .i64 0 ∧ wr = w3) (fun _ _ => 0)
    case atStart => exact ⟨rfl, rfl⟩
    case round =>
      obtain ⟨rfl, rfl⟩ := hrel
      go_wp2
      go_end0
      exact ⟨rfl, E1, _, v1, l1, h3, rfl, hr3, ho2, hB3, hMw, fun h => absurd h hE⟩
set_option maxRecDepth 100000 in
set_option maxHeartbeats 2000000 in
theorem listE_r (q pr b off : Nat) (t : TypeId) (xs : Array Value) (ao : Option Addr) (cap : Nat) (v : Value) (l : List Int) (w : World) (h : Co w q pr 0) (hr : Rd w pr v l) (hB : Bk w b t xs) (hx : xs[off]? = some (.slice ao 0 cap)) (hn : q ≠ pr ∧ b ≠ pr ∧ b ≠ q) (hv : ∀ g, v.ownBlock = some g → g < w.heap.size ∧ g ≠ q ∧ g ≠ b) :
    Calls Try.prog 130 #[.pointer (some ⟨q, 0, none⟩), .pointer (some ⟨b, off, none⟩), .int .i64 8, .func (.func 131) #[] #[]] w fun e w' => e = .returned (.tuple #[]) ∧ LPost q pr b off t xs v l 8 6 167 w w' := by
  obtain ⟨i0, hi, hz0, hz1, hz2⟩ := info_parts infoE
  have hql := lt_of_block h.blk
  have hpl := lt_of_block hr.blk
  have hbl := hB.lt
  have HC := cnt_r q pr v l w h hr hn.1 (fun g hg => ⟨(hv g hg).1, (hv g hg).2.1⟩)
  obtain ⟨r1, r2⟩ := rd1 l
  have hnv := num_val l 0 0
  have c0 := hB.cellv hx
  have hA : Mod (fun _ => False) w (w.alloc (.cells #[.int .i64 0] 3)) := (Mod.refl _ w).alloc _
  have c1 := hA.cell c0 (fun h => h)
  have hlt : off < xs.size := by
    rcases Nat.lt_or_ge off xs.size with h | h
    · exact h
    · rw [Array.getElem?_eq_none h] at hx; cases hx
  have hself : xs.setIfInBounds off (.slice ao 0 cap) = xs := by
    apply Array.ext_getElem?
    intro i
    by_cases e : off = i
    · subst e
      rw [Array.getElem?_setIfInBounds_self_of_lt hlt, hx]
    · rw [Array.getElem?_setIfInBounds_ne e]
  generalize (num 0 0 l).1 = N at *
  generalize hE1 : (num 0 0 l).2.2 = E1 at *
  generalize hl1 : l.drop (num 0 0 l).2.1.toNat = l1 at *
  clear h hr hE1 hl1 hA
  rcases (show (E1 = 0 ∧ (8 : Int) < N) ∨ (E1 = 0 ∧ 0 ≤ N ∧ ¬ (8 : Int) < N) ∨ (E1 ≠ 0 ∧ N = 0) from by omega) with ⟨rfl, hb1⟩ | ⟨rfl, hb0, hb1⟩ | ⟨hE, rfl⟩
  · -- too many
    have e5 : lE 8 6 l = 5 := by
      rw [lE, if_neg (by simp [r1]), (r2 rfl).1, if_pos (by omega)]
    unfold LPost
    rw [e5]
    clear r1 r2 hnv
    go_enter Try.func130, Try.ntmps130
    go_wp2_with (fail)
    refine HC.mono ?_
    rintro e w2 ⟨rfl, v1, h2, hr2, ho2, hc2, hm2, hs2⟩
    have HF := fail_r0 q pr 5 w2 h2
    clear HC
    go_wp2_with (fail)
    refine HF.mono ?_
    rintro e w3 ⟨rfl, rfl⟩
    have hM : Mod (fun k => k = q) w2 (w2.setCell ⟨q, 2, none⟩ (.int .i64 5)) := (Mod.refl _ _).setCell _ _ (.inl rfl)
    have hMM : Mod (fun k => k = pr ∨ k = q ∨ k = b) w (w2.setCell ⟨q, 2, none⟩ (.int .i64 5)) := hm2.trans hM (fun _ _ h => by omega) (fun _ _ h => by omega)
    have R : Co (w2.setCell ⟨q, 2, none⟩ (.int .i64 5)) q pr 5 ∧ Rd (w2.setCell ⟨q, 2, none⟩ (.int .i64 5)) pr v1 l1 ∧ Bk (w2.setCell ⟨q, 2, none⟩ (.int .i64 5)) b t (xs.setIfInBounds off (.slice ao 0 cap)) := ⟨h2.set 5, hr2.mod hM (by omega) (fun g hg e => by have := hv g (ho2 g hg); omega), by rw [hself]; exact (hB.mod hm2 (by omega)).mod hM (by omega)⟩
    clear h2 hr2 hB hc2
    go_wp2
    refine bodyPost_ret (v := .tuple #[]) (by simp [results, Try.results130]) rfl ?_
    exact ⟨rfl, 5, _, v1, l1, R.1, rfl, R.2.1, ho2, R.2.2, hMM, fun h => absurd h (by decide)⟩
  · -- as many as may be
    obtain ⟨M, rfl⟩ := Int.eq_ofNat_of_zero_le hb0
    have hM16 : M ≤ 8 := by omega
    have eN : gN l = M := by rw [(r2 rfl).1]; simp
    have eR : rdr 1 l = l1 := (r2 rfl).2
    have eL : lE 8 6 l = rde (M * 6) l1 := by
      rw [lE, if_neg (by simp [r1]), eN, if_neg (by omega), eR]
    unfold LPost
    rw [eL, eN, eR]
    clear r1 r2 hnv eL eN eR hself
    have hmk : ∀ W : World, (Instr.makeSlice 70 (.int .i64 (M : Int)) (.int .i64 (M : Int))).run Try.prog W = .ok (.slice (some ⟨W.heap.size, 0, none⟩) M M) (W.alloc (.cells (madeCells (.agg #[.int .i64 0, .int .i64 0, .int .i64 0, .int .i64 0, .int .i64 0, .int .i64 0] : Value).cells (M * 6)) 167)) := fun W => by
      have := run_make (P := Try.prog) W 70 167 i0 _ Try.underlying70 hi hz0 .i64 .i64 (M : Int) (M : Int) (by omega) (by omega) (by rw [hz2]; omega) (by omega)
      rw [this, hz1, Int.toNat_natCast]
    have hZ : (madeCells (.agg #[.int .i64 0, .int .i64 0, .int .i64 0, .int .i64 0, .int .i64 0, .int .i64 0] : Value).cells (M * 6)).size = M * 6 := by rw [size_madeCells]
    have hZx : ∀ k, k < M * 6 → ∃ x, (madeCells (.agg #[.int .i64 0, .int .i64 0, .int .i64 0, .int .i64 0, .int .i64 0, .int .i64 0] : Value).cells (M * 6))[0 + k]? = some (.int .i64 x) := fun k hk => by
      rw [Nat.zero_add, Array.getElem?_eq_getElem (by rw [hZ]; exact hk)]
      exact ⟨0, by congr 1; exact madeGet6 M k hk⟩
    generalize madeCells (.agg #[.int .i64 0, .int .i64 0, .int .i64 0, .int .i64 0, .int .i64 0, .int .i64 0] : Value).cells (M * 6) = Z at hmk hZ hZx
    clear hi hz0 hz1 hz2
    go_enter Try.func130, Try.ntmps130
    go_wp2_with (fail)
    refine HC.mono ?_
    rintro e w2 ⟨rfl, v1, h2, hr2, ho2, hc2, hm2, hs2⟩
    have HR := reads_r q pr 0 w2 h2
    have hB2 := hB.mod hm2 (by omega)
    have hq2 := lt_of_block h2.blk
    have hp2 := lt_of_block hr2.blk
    have hb2 := hB2.lt
    have k1 := hB2.cellv hx
    have k2 := hB2.frz off
    have hM0 : Mod (fun k => k = b) w2 ((w2.setCell ⟨b, off, none⟩ (.slice (some ⟨w2.heap.size, 0, none⟩) M M)).alloc (.cells Z 167)) := ((Mod.refl (fun k => k = b) w2).setCell ⟨b, off, none⟩ _ (.inl rfl)).alloc _
    have h3 := (h2.other ⟨b, off, none⟩ (.slice (some ⟨w2.heap.size, 0, none⟩) M M) hn.2.2).mod ((Mod.refl (fun _ => False) _).alloc (.cells Z 167)) (fun h => h)
    have hr3 := hr2.mod hM0 (by omega) (fun g hg e => by have := hv g (ho2 g hg); omega)
    have hB3 := (hB2.set off (.slice (some ⟨w2.heap.size, 0, none⟩) M M)).mod ((Mod.refl (fun _ => False) _).alloc (.cells Z 167)) (fun h => h)
    have hZ3 : Bk ((w2.setCell ⟨b, off, none⟩ (.slice (some ⟨w2.heap.size, 0, none⟩) M M)).alloc (.cells Z 167)) w2.heap.size 167 Z := by
      have := Bk.new (w2.setCell ⟨b, off, none⟩ (.slice (some ⟨w2.heap.size, 0, none⟩) M M)) Z 167
      simpa [World.setCell] using this
    have hMw : Mod (fun k => k = pr ∨ k = q ∨ k = b) w ((w2.setCell ⟨b, off, none⟩ (.slice (some ⟨w2.heap.size, 0, none⟩) M M)).alloc (.cells Z 167)) := hm2.trans hM0 (fun _ _ h => by omega) (fun _ _ h => by omega)
    have hvv : v1.ownBlock ≠ some q ∧ v1.ownBlock ≠ some w2.heap.size := ⟨fun e => by have := hv q (ho2 q e); omega, fun e => by have := hv _ (ho2 _ e); omega⟩
    have kS : ((w2.alloc (.cells Z 167)).cell? ⟨b, off, none⟩ = some (.slice ao 0 cap)) := ((Mod.refl (fun _ => False) w2).alloc _).cell k1 (fun h => h)
    have hMi : ¬ (8 : Int) < (M : Int) := by omega
    have kF : (w2.alloc (.cells Z 167)).frozen? ⟨b, off, none⟩ = false := (hB2.mod ((Mod.refl (fun _ => False) w2).alloc (.cells Z 167)) (fun h => h)).frz off
    clear HC hM0 h2 hr2 hB2 hB c0 c1
    go_wp2_with (fail)
    refine HR.mono ?_
    rintro e w2' ⟨rfl, rfl⟩
    clear HR
    have hHd := hB3.cell off
    rw [Array.getElem?_setIfInBounds_self_of_lt hlt] at hHd
    generalize hw3 : (w2'.setCell ⟨b, off, none⟩ (.slice (some ⟨w2'.heap.size, 0, none⟩) M M)).alloc (.cells Z 167) = w3 at *
    go_wp2
    first | rw [hw3] | skip
    clear hw3
    go_loopw [31] (fun i wr => ∃ (j : Nat) (xs' : Array Value) (v' : Value) (l' d : List Int) (E : Int), i = .int .i64 j ∧ j ≤ M ∧ Hid (Nst w3 q pr w2'.heap.size 167 Z 0 (M * 6) v1 l1 (j * 6) xs' v' l' d E wr)) (fun i _ => M - (intOf i).toNat)
    case atStart => exact ⟨0, _, _, _, _, _, rfl, by omega, by rw [Nat.zero_mul]; exact Nst.start h3 hr3 hZ3⟩
    case round =>
      clear h3 hr3 hZ3
      obtain ⟨j, xs', v', l', d, E, rfl, hj, hN0⟩ := hrel
      have hN := hN0.out
      have hH := hN.mod.cell hHd (by show ¬ (b = pr ∨ b = q ∨ b = w2'.heap.size); omega)
      by_cases hjM : j < M
      · have hji : (j : Int) < (M : Int) := by omega
        have HE := entry_c w3 q pr w2'.heap.size 167 Z 0 (M * 6) v1 l1 (j * 6) xs' v' l' d E wr hN (by omega) (by omega) hZx ⟨hn.1, by omega, by omega⟩ hvv
        rw [Nat.zero_add] at HE
        clear hN hN0 hZx
        go_wp2_with (fail)
        refine HE.mono ?_
        rintro e w5 ⟨rfl, xs5, v5, l5, d5, E5, h5⟩
        go_wp2
        go_roundw
        case rel => exact ⟨j + 1, xs5, v5, l5, d5, E5, by go_num, by omega, by rw [Nat.add_mul, Nat.one_mul]; exact h5⟩
        case measure => simp [intOf]; omega
      · obtain rfl : j = M := by omega
        obtain ⟨dE, dR⟩ := hN.done
        have hBF := hB3.mod hN.mod (by omega)
        have hMF := hMw.trans hN.mod (V := fun k => k = pr ∨ k = q ∨ k = b) (fun _ _ h => h) (fun i hi h => by omega)
        have R := hN
        clear hN0 hZx hH hN
        go_wp2
        go_end0
        refine ⟨rfl, E, _, v', l', R.co, dE, R.rd, fun g hg => ho2 g (R.own g hg), hBF, hMF, fun h0 => ⟨(dR h0).1, w2'.heap.size, xs', rfl, by omega, hM16, R.bk, by rw [R.size, hZ], fun k hk => ?_⟩⟩
        have := (dR h0).2 k hk
        rwa [Nat.zero_add] at this
  · -- no number
    have eE : lE 8 6 l = E1 := by rw [lE, if_pos (by rw [r1]; exact hE), r1]
    unfold LPost
    rw [eE]
    clear r1 r2 hnv hself
    have hmk : ∀ W : World, (Instr.makeSlice 70 (.int .i64 0) (.int .i64 0)).run Try.prog W = .ok (.slice (some ⟨W.heap.size, 0, none⟩) 0 0) (W.alloc (.cells #[] 167)) := fun W => by
      have := run_make (P := Try.prog) W 70 167 i0 _ Try.underlying70 hi hz0 .i64 .i64 0 0 (by omega) (by omega) (by rw [hz2]; omega) (by omega)
      rw [this]
      show Result.ok _ (W.alloc (Obj.cells (madeCells _ (0 * i0.size)) _)) = _
      rw [Nat.zero_mul, made0]
      rfl
    clear hi hz0 hz1 hz2
    go_enter Try.func130, Try.ntmps130
    go_wp2_with (fail)
    refine HC.mono ?_
    rintro e w2 ⟨rfl, v1, h2, hr2, ho2, hc2, hm2, hs2⟩
    have HR := reads_r q pr E1 w2 h2
    have hB2 := hB.mod hm2 (by omega)
    have k1 := hB2.cellv hx
    have k2 := hB2.frz off
    have hM0 : Mod (fun k => k = b) w2 ((w2.alloc (.cells #[] 167)).setCell ⟨b, off, none⟩ (.slice (some ⟨w2.heap.size, 0, none⟩) 0 0)) := ((Mod.refl (fun k => k = b) w2).alloc _).setCell ⟨b, off, none⟩ _ (.inl rfl)
    have h3 := (h2.mod ((Mod.refl (fun _ => False) _).alloc (.cells #[] 167)) (fun h => h)).other ⟨b, off, none⟩ (.slice (some ⟨w2.heap.size, 0, none⟩) 0 0) hn.2.2
    have hr3 := hr2.mod hM0 (by omega) (fun g hg e => by have := hv g (ho2 g hg); omega)
    have hB3 := (hB2.mod ((Mod.refl (fun _ => False) _).alloc (.cells #[] 167)) (fun h => h)).set off (.slice (some ⟨w2.heap.size, 0, none⟩) 0 0)
    have hMw : Mod (fun k => k = pr ∨ k = q ∨ k = b) w ((w2.alloc (.cells #[] 167)).setCell ⟨b, off, none⟩ (.slice (some ⟨w2.heap.size, 0, none⟩) 0 0)) := hm2.trans hM0 (fun _ _ h => by omega) (fun _ _ h => by omega)
    have kS : ((w2.alloc (.cells #[] 167)).cell? ⟨b, off, none⟩ = some (.slice ao 0 cap)) := ((Mod.refl (fun _ => False) w2).alloc _).cell k1 (fun h => h)
    have kF : (w2.alloc (.cells #[] 167)).frozen? ⟨b, off, none⟩ = false := (hB2.mod ((Mod.refl (fun _ => False) w2).alloc (.cells #[] 167)) (fun h => h)).frz off
    clear HC hM0 h2 hr2 hB2 hB c0 c1
    go_wp2_with (fail)
    refine HR.mono ?_
    rintro e w2' ⟨rfl, rfl⟩
    clear HR
    have hHd := hB3.cell off
    rw [Array.getElem?_setIfInBounds_self_of_lt hlt] at hHd
    generalize hw3 : (w2'.alloc (.cells #[] 167)).setCell ⟨b, off, none⟩ (.slice (some ⟨w2'.heap.size, 0, none⟩) 0 0) = w3 at *
    go_wp2
    first | rw [hw3] | skip
    clear hw3
    go_loopw [31] (fun i wr => i = .int .i64 0 ∧ wr = w3) (fun _ _ => 0)
    case atStart => exact ⟨rfl, rfl⟩
    case round =>
      obtain ⟨rfl, rfl⟩ := hrel
      go_wp2
      go_end0
      exact ⟨rfl, E1, _, v1, l1, h3, rfl, hr3, ho2, hB3, hMw, fun h => absurd h hE⟩
end Go.Proofs.Ytajhpnfpjickbaa
