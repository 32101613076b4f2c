/- Contracts of packet's coder where it writes: lists of ints. Conditions: what may be written. Contracts of packet's coder where it writes: token, commit. Conditions: what may be written. -/
import Derived.Test.YtajhpnfpjickbaaK35
namespace Go.Proofs.Ytajhpnfpjickbaa
open Go.RowKit
set_option maxRecDepth 100000 in
set_option maxHeartbeats 2000000 in
theorem listInt_w (q pw : Nat) (v : Value) (L : List Int) (lb lo : Nat) (ao : Option Addr) (cap : Nat) (xs : List Int) (w : World) (hc : Cw w q pw) (h : Wr w pw v L) (hq : q ≠ pw ∧ v.ownBlock ≠ some q) (hr : lb ≠ pw ∧ v.ownBlock ≠ some lb) (hv : Nums xs) (hn : xs.length ≤ 16)
    (hl : w.cell? ⟨lb, lo, none⟩ = some (.slice ao xs.length cap)) (hs : Cr.Sl w (.slice ao xs.length cap) xs) (hsv : xs ≠ [] → ∀ g, (Value.slice ao xs.length cap).ownBlock = some g → g ≠ pw ∧ v.ownBlock ≠ some g) (hb : L.length + 200 ≤ 140737488355328) :
    Calls Try.prog 129 #[.pointer (some ⟨q, 0, none⟩), .pointer (some ⟨lb, lo, none⟩), .int .i64 16, .func (.func 100) #[] #[]] w fun e w' => e = .returned (.tuple #[]) ∧ ∃ v', Wr w' pw v' (L ++ (packs [(xs.length : Int)] ++ packs xs)) ∧ Mod (fun k => k = pw ∨ v.ownBlock = some k) w w' ∧ Fr w v v' := by
  have hql : q < w.heap.size := lt_of_block hc.blk
  have hel : lb < w.heap.size := World.block_lt_of_cell? w _ hl
  have hpl : pw < w.heap.size := lt_of_block h.blk
  have S1 : ¬ (q = pw ∨ v.ownBlock = some q) := fun h => h.elim hq.1 hq.2
  have S2 : ¬ (lb = pw ∨ v.ownBlock = some lb) := fun h => h.elim hr.1 hr.2
  have hA : Mod (fun _ => False) w (w.alloc (.cells #[.int .i64 (xs.length : Int)] 3)) := (Mod.refl _ w).alloc _
  have hB := (Bk.new w #[.int .i64 (xs.length : Int)] 3)
  have H1 := number_w q pw v L w.heap.size 0 xs.length _ (hc.mod hA (fun h => h)) (h.mod hA (fun h => h) (fun _ _ h => h)) (hB.cellv rfl) (by omega) (by omega) hq ⟨by omega, fun e => by have := h.own.lt _ e; omega⟩
  have hvl := h.own.lt
  have hni : ¬ (16 : Int) < xs.length := by omega
  have hpk : packs [(xs.length : Int)] = enc xs.length := by simp [packs]
  rw [hpk]
  have l1 := enc_len xs.length
  have hcl := (hA.cell hl (fun h => h))
  obtain ⟨ao', cap', e0, s1, s2, s3, s4⟩ := hs
  simp only [Value.slice.injEq, true_and] at e0
  obtain ⟨rfl, rfl⟩ := e0
  unfold maxLen at s2
  clear hpk
  go_enter Try.func129, Try.ntmps129
  go_wp2_with (fail)
  refine H1.mono ?_
  rintro e w1 ⟨rfl, v1, hw1, hm1', hf1'⟩
  have hm1 := hA.trans hm1' (V := fun k => k = pw ∨ v.ownBlock = some k) (fun _ _ h => h.elim) (fun _ _ h => h)
  have hf1 : Fr w v v1 := fun g hg => (hf1' g hg).imp id (fun h => by have := hA.size; omega)
  have hc1 := hc.mod hm1 S1
  have k0 := (hB.mod hm1' (by rintro (h | h); omega; (have := hvl _ h; omega))).cellv (j := 0) (v := .int .i64 (xs.length : Int)) rfl
  have k1 := hm1.cell hl S2
  have HR := reads_w q pw w1 hc1
  clear hB H1 hcl hm1' hf1'
  go_wp2_with (fail)
  refine HR.mono ?_
  rintro e w1' ⟨rfl, rfl⟩
  go_wp2
  clear k0 HR
  go_loopw [31] (fun i wr => ∃ (j : Nat) (v' : Value), i = .int .i64 j ∧ j ≤ xs.length ∧ Wr wr pw v' ((L ++ enc xs.length) ++ packs (xs.take j)) ∧ Mod (fun k => k = pw ∨ v.ownBlock = some k) w wr ∧ Fr w v v') (fun i _ => xs.length - (intOf i).toNat)
  case atStart => exact ⟨0, v1, rfl, by omega, by simpa [packs] using hw1, hm1, hf1⟩
  case round =>
    obtain ⟨j, v', rfl, hj, hw, hm, hfr⟩ := hrel
    clear hw1 hm1 hf1 hc1 k1
    by_cases hlt : j < xs.length
    · have hne : xs ≠ [] := by rintro rfl; simp at hlt
      obtain ⟨b, off, rfl, hcs⟩ := s4 hne
      have hsb := hsv hne b rfl
      have S3 : ¬ (b = pw ∨ v.ownBlock = some b) := fun h => h.elim hsb.1 hsb.2
      have x1 := hcs j hlt
      have hbl : b < w.heap.size := World.block_lt_of_cell? w _ x1
      have hcj := hm.cell x1 S3
      have kl := hm.cell hl S2
      have hqc := hc.mod hm S1
      have hxn := hv _ (getD_mem hlt)
      have hl2 := packs_len (xs.take j)
      have HT : Hid (xs.take (j + 1) = xs.take j ++ [xs.getD j 0]) := take_snoc hlt
      obtain ⟨x, hxe⟩ := Int.eq_ofNat_of_zero_le hxn.1
      rw [hxe] at hcj HT hxn
      have hlen2 : ((L ++ enc xs.length) ++ packs (xs.take j)).length + 8 ≤ 140737488355328 := by
        simp only [List.length_append]
        rw [List.length_take] at hl2
        omega
      have HN := number_w q pw v' _ b (off + j) x wr hqc hw hcj (by omega) hlen2 ⟨hq.1, hfr.keep hq.2 hql⟩ ⟨hsb.1, hfr.keep hsb.2 hbl⟩
      have hji : (j : Int) < xs.length := by omega
      clear hl2 hqc hcj x1 hxe hcs s4
      go_wp2_with (fail)
      refine HN.mono ?_
      rintro e w2 ⟨rfl, v2, hw2, hm2, hf2⟩
      go_wp2
      go_roundw
      case rel =>
        refine ⟨j + 1, v2, by go_num, by omega, ?_, hm.wr hfr hm2, hfr.trans hf2 hm.size⟩
        rw [HT.out, packs_snoc, ← List.append_assoc]
        simpa using hw2
      case measure => simp [intOf]; omega
    · obtain rfl : j = xs.length := by omega
      rw [List.take_length] at hw
      go_wp2
      go_end0
      exact ⟨rfl, v', by simpa [List.append_assoc] using hw, hm, hfr⟩
theorem eys_snoc : ∀ (l : List Ey) (e : Ey), eys (l ++ [e]) = eys l ++ e.ns
  | [], e => by simp [eys]
  | a :: l, e => by simp [eys, eys_snoc l e]
theorem eys_len : ∀ l : List Ey, (eys l).length = 6 * l.length
  | [] => rfl
  | a :: l => by simp [eys, Ey.ns, eys_len l]; omega
theorem take_snoc_ey {l : List Ey} {k : Nat} {e : Ey} (h : l[k]? = some e) : l.take (k + 1) = l.take k ++ [e] := by
  rw [List.take_add_one, h]
  rfl
set_option maxRecDepth 100000 in
set_option maxHeartbeats 2000000 in
theorem listEntry_w (q pw : Nat) (v : Value) (L : List Int) (lb lo : Nat) (ao : Option Addr) (cap : Nat) (xs : List Ey) (w : World) (hc : Cw w q pw) (h : Wr w pw v L) (hq : q ≠ pw ∧ v.ownBlock ≠ some q) (hr : lb ≠ pw ∧ v.ownBlock ≠ some lb) (hv : ∀ e ∈ xs, Nums e.ns) (hn : xs.length ≤ 8)
    (hl : w.cell? ⟨lb, lo, none⟩ = some (.slice ao xs.length cap)) (hs : SlE w (.slice ao xs.length cap) xs) (hsv : xs ≠ [] → ∀ g, (Value.slice ao xs.length cap).ownBlock = some g → g ≠ pw ∧ v.ownBlock ≠ some g) (hb : L.length + 500 ≤ 140737488355328) :
    Calls Try.prog 130 #[.pointer (some ⟨q, 0, none⟩), .pointer (some ⟨lb, lo, none⟩), .int .i64 8, .func (.func 131) #[] #[]] w fun e w' => e = .returned (.tuple #[]) ∧ ∃ v', Wr w' pw v' (L ++ (packs [(xs.length : Int)] ++ packs (eys xs))) ∧ Mod (fun k => k = pw ∨ v.ownBlock = some k) w w' ∧ Fr w v v' := by
  have hql : q < w.heap.size := lt_of_block hc.blk
  have hel : lb < w.heap.size := World.block_lt_of_cell? w _ hl
  have hpl : pw < w.heap.size := lt_of_block h.blk
  have S1 : ¬ (q = pw ∨ v.ownBlock = some q) := fun h => h.elim hq.1 hq.2
  have S2 : ¬ (lb = pw ∨ v.ownBlock = some lb) := fun h => h.elim hr.1 hr.2
  have hA : Mod (fun _ => False) w (w.alloc (.cells #[.int .i64 (xs.length : Int)] 3)) := (Mod.refl _ w).alloc _
  have hB := (Bk.new w #[.int .i64 (xs.length : Int)] 3)
  have H1 := number_w q pw v L w.heap.size 0 xs.length _ (hc.mod hA (fun h => h)) (h.mod hA (fun h => h) (fun _ _ h => h)) (hB.cellv rfl) (by omega) (by omega) hq ⟨by omega, fun e => by have := h.own.lt _ e; omega⟩
  have hvl := h.own.lt
  have hni : ¬ (8 : Int) < xs.length := by omega
  have hpk : packs [(xs.length : Int)] = enc xs.length := by simp [packs]
  rw [hpk]
  have l1 := enc_len xs.length
  have hcl := (hA.cell hl (fun h => h))
  obtain ⟨ao', cap', e0, s1, s2, s3, s4⟩ := hs.form
  simp only [Value.slice.injEq, true_and] at e0
  obtain ⟨rfl, rfl⟩ := e0
  unfold maxLen at s2
  clear hpk
  go_enter Try.func130, Try.ntmps130
  go_wp2_with (fail)
  refine H1.mono ?_
  rintro e w1 ⟨rfl, v1, hw1, hm1', hf1'⟩
  have hm1 := hA.trans hm1' (V := fun k => k = pw ∨ v.ownBlock = some k) (fun _ _ h => h.elim) (fun _ _ h => h)
  have hf1 : Fr w v v1 := fun g hg => (hf1' g hg).imp id (fun h => by have := hA.size; omega)
  have hc1 := hc.mod hm1 S1
  have k0 := (hB.mod hm1' (by rintro (h | h); omega; (have := hvl _ h; omega))).cellv (j := 0) (v := .int .i64 (xs.length : Int)) rfl
  have k1 := hm1.cell hl S2
  have HR := reads_w q pw w1 hc1
  clear hB H1 hcl hm1' hf1'
  go_wp2_with (fail)
  refine HR.mono ?_
  rintro e w1' ⟨rfl, rfl⟩
  go_wp2
  clear k0 HR
  go_loopw [31] (fun i wr => ∃ (j : Nat) (v' : Value), i = .int .i64 j ∧ j ≤ xs.length ∧ Wr wr pw v' ((L ++ enc xs.length) ++ packs (eys (xs.take j))) ∧ Mod (fun k => k = pw ∨ v.ownBlock = some k) w wr ∧ Fr w v v') (fun i _ => xs.length - (intOf i).toNat)
  case atStart => exact ⟨0, v1, rfl, by omega, by simpa [packs, eys] using hw1, hm1, hf1⟩
  case round =>
    obtain ⟨j, v', rfl, hj, hw, hm, hfr⟩ := hrel
    clear hw1 hm1 hf1 hc1 k1
    by_cases hlt : j < xs.length
    · have hne : xs ≠ [] := by rintro rfl; simp at hlt
      obtain ⟨b, off, rfl, hcs⟩ := s4 hne
      have hsb := hsv hne b rfl
      have S3 : ¬ (b = pw ∨ v.ownBlock = some b) := fun h => h.elim hsb.1 hsb.2
      obtain ⟨y, hy⟩ : ∃ y, xs[j]? = some y := ⟨_, List.getElem?_eq_getElem hlt⟩
      obtain ⟨x0, x1, x2, x3, x4, x5⟩ := hcs j y hy
      have hbl : b < w.heap.size := World.block_lt_of_cell? w _ x0
      have kl := hm.cell hl S2
      have hqc := hc.mod hm S1
      have hl2 := packs_len (eys (xs.take j))
      have hl3 := eys_len (xs.take j)
      have HT : Hid (xs.take (j + 1) = xs.take j ++ [y]) := take_snoc_ey hy
      have hlen2 : ((L ++ enc xs.length) ++ packs (eys (xs.take j))).length + 48 ≤ 140737488355328 := by
        simp only [List.length_append]
        rw [List.length_take] at hl3
        omega
      have HN := entry_w q pw v' _ b (off + j * 6) y wr hqc hw (hv y (List.mem_of_getElem? hy)) ⟨hq.1, hfr.keep hq.2 hql⟩ ⟨hsb.1, hfr.keep hsb.2 hbl⟩ (hm.cell x0 S3) (hm.cell x1 S3) (hm.cell x2 S3) (hm.cell x3 S3) (hm.cell x4 S3) (hm.cell x5 S3) hlen2
      have hji : (j : Int) < xs.length := by omega
      clear hl2 hl3 hqc x0 x1 x2 x3 x4 x5 hcs s4 hy
      go_wp2_with (fail)
      refine HN.mono ?_
      rintro e w2 ⟨rfl, v2, hw2, hm2, hf2⟩
      go_wp2
      go_roundw
      case rel =>
        refine ⟨j + 1, v2, by go_num, by omega, ?_, hm.wr hfr hm2, hfr.trans hf2 hm.size⟩
        rw [HT.out, eys_snoc, packs_app, ← List.append_assoc]
        simpa using hw2
      case measure => simp [intOf]; omega
    · obtain rfl : j = xs.length := by omega
      rw [List.take_length] at hw
      go_wp2
      go_end0
      exact ⟨rfl, v', by simpa [List.append_assoc] using hw, hm, hfr⟩
end Go.Proofs.Ytajhpnfpjickbaa
namespace Go.Proofs.Ytajhpnfpjickbaa
open Go.RowKit
theorem SlE.lt {w : World} {v : Value} {l : List Ey} (h : SlE w v l) (hl : l ≠ []) : ∀ g, v.ownBlock = some g → g < w.heap.size := by
  obtain ⟨ao, cap, rfl, _, _, _, h4⟩ := h.form
  obtain ⟨b, off, rfl, hc⟩ := h4 hl
  intro g hg
  simp only [Value.ownBlock, Option.some.injEq] at hg
  subst hg
  obtain ⟨e, he⟩ : ∃ e, l[0]? = some e := by
    cases l with
    | nil => exact absurd rfl hl
    | cons a _ => exact ⟨a, rfl⟩
  exact World.block_lt_of_cell? w _ (hc 0 e he).1
set_option maxRecDepth 100000 in
set_option maxHeartbeats 2000000 in
theorem token_w (q pw : Nat) (v : Value) (L : List Int) (tb to_ : Nat) (rs rr hp sq ar lw st tid : Int) (ao : Option Addr) (cap : Nat) (xs : List Int) (w : World) (hc : Cw w q pw) (h : Wr w pw v L) (hq : q ≠ pw ∧ v.ownBlock ≠ some q) (hr : tb ≠ pw ∧ v.ownBlock ≠ some tb) (hv : Nums [rs, rr, hp, sq, ar, lw, st, tid]) (hxs : Nums xs) (hn : xs.length ≤ 16)
    (d0 : w.cell? ⟨tb, to_, none⟩ = some (.int .i64 rs)) (d1 : w.cell? ⟨tb, to_ + 1, none⟩ = some (.int .i64 rr)) (d2 : w.cell? ⟨tb, to_ + 2, none⟩ = some (.int .i64 hp)) (d3 : w.cell? ⟨tb, to_ + 3, none⟩ = some (.int .i64 sq)) (d4 : w.cell? ⟨tb, to_ + 4, none⟩ = some (.int .i64 ar)) (d5 : w.cell? ⟨tb, to_ + 5, none⟩ = some (.int .i64 lw)) (d6 : w.cell? ⟨tb, to_ + 6, none⟩ = some (.int .i64 st)) (d7 : w.cell? ⟨tb, to_ + 7, none⟩ = some (.int .i64 tid)) (dl : w.cell? ⟨tb, to_ + 8, none⟩ = some (.slice ao xs.length cap)) (hs : Cr.Sl w (.slice ao xs.length cap) xs) (hsv : xs ≠ [] → ∀ g, (Value.slice ao xs.length cap).ownBlock = some g → g ≠ pw ∧ v.ownBlock ≠ some g) (hb : L.length + 700 ≤ 140737488355328) :
    Calls Try.prog 104 #[.pointer (some ⟨q, 0, none⟩), .pointer (some ⟨tb, to_, none⟩)] w fun e w' => e = .returned (.tuple #[]) ∧ ∃ v', Wr w' pw v' (L ++ (packs [rs, rr, hp, sq, ar, lw, st, tid] ++ (packs [(xs.length : Int)] ++ packs xs))) ∧ Mod (fun k => k = pw ∨ v.ownBlock = some k) w w' ∧ Fr w v v' := by
  have hql : q < w.heap.size := lt_of_block hc.blk
  have hel : tb < w.heap.size := World.block_lt_of_cell? w _ d0
  have nR : Nums [rs, rr] := fun x hx => hv x (by simp at hx ⊢; omega)
  have nT : Nums [hp, sq, ar, lw, st, tid] := fun x hx => hv x (by simp at hx ⊢; omega)
  have hpk : packs [rs, rr, hp, sq, ar, lw, st, tid] = packs [rs, rr] ++ packs [hp, sq, ar, lw, st, tid] := by simp [packs]
  rw [hpk]
  have S1 : ¬ (q = pw ∨ v.ownBlock = some q) := fun h => h.elim hq.1 hq.2
  have S2 : ¬ (tb = pw ∨ v.ownBlock = some tb) := fun h => h.elim hr.1 hr.2
  have H1 := ring_w q pw v L tb to_ rs rr w hc h nR hq hr d0 d1 (by omega)
  have l1 := packs_len [rs, rr]
  have l2 := packs_len [hp, sq, ar, lw, st, tid]
  clear hpk hv
  go_enter Try.func104, Try.ntmps104
  go_wp2_with (fail)
  refine H1.mono ?_
  rintro e w1 ⟨rfl, v1, hw1, hm1, hf1⟩
  have hz1 := hm1.size
  have hA : Mod (fun _ => False) w1 (w1.alloc (.cells #[.pointer (some ⟨tb, to_ + 2, none⟩), .pointer (some ⟨tb, to_ + 3, none⟩), .pointer (some ⟨tb, to_ + 4, none⟩), .pointer (some ⟨tb, to_ + 5, none⟩), .pointer (some ⟨tb, to_ + 6, none⟩), .pointer (some ⟨tb, to_ + 7, none⟩)] 131)).drew := ((Mod.refl _ w1).alloc _).drew
  have hPB : PB (w1.alloc (.cells #[.pointer (some ⟨tb, to_ + 2, none⟩), .pointer (some ⟨tb, to_ + 3, none⟩), .pointer (some ⟨tb, to_ + 4, none⟩), .pointer (some ⟨tb, to_ + 5, none⟩), .pointer (some ⟨tb, to_ + 6, none⟩), .pointer (some ⟨tb, to_ + 7, none⟩)] 131)).drew w1.heap.size [(tb, to_ + 2), (tb, to_ + 3), (tb, to_ + 4), (tb, to_ + 5), (tb, to_ + 6), (tb, to_ + 7)] := PB.of (t := 131) (heap_alloc_new w1 (.cells #[.pointer (some ⟨tb, to_ + 2, none⟩), .pointer (some ⟨tb, to_ + 3, none⟩), .pointer (some ⟨tb, to_ + 4, none⟩), .pointer (some ⟨tb, to_ + 5, none⟩), .pointer (some ⟨tb, to_ + 6, none⟩), .pointer (some ⟨tb, to_ + 7, none⟩)] 131))
  have hpw1 : pw < w1.heap.size := lt_of_block hw1.blk
  have HN := numbers_w q pw v1 _ [hp, sq, ar, lw, st, tid] [(tb, to_ + 2), (tb, to_ + 3), (tb, to_ + 4), (tb, to_ + 5), (tb, to_ + 6), (tb, to_ + 7)] w1.heap.size 6 _ ((hc.mod hm1 S1).mod hA (fun h => h)) (hw1.mod hA (fun h => h) (fun _ _ h => h)) nT rfl hPB ⟨by omega, fun e => by have := hw1.own.lt _ e; omega⟩ ⟨hq.1, hf1.keep hq.2 hql⟩ (fun j a ha => by
    match j, ha with
    | 0, ha => simp at ha; subst ha; exact ⟨hA.cell (hm1.cell d2 S2) (fun h => h), hr.1, hf1.keep hr.2 hel⟩
    | 1, ha => simp at ha; subst ha; exact ⟨hA.cell (hm1.cell d3 S2) (fun h => h), hr.1, hf1.keep hr.2 hel⟩
    | 2, ha => simp at ha; subst ha; exact ⟨hA.cell (hm1.cell d4 S2) (fun h => h), hr.1, hf1.keep hr.2 hel⟩
    | 3, ha => simp at ha; subst ha; exact ⟨hA.cell (hm1.cell d5 S2) (fun h => h), hr.1, hf1.keep hr.2 hel⟩
    | 4, ha => simp at ha; subst ha; exact ⟨hA.cell (hm1.cell d6 S2) (fun h => h), hr.1, hf1.keep hr.2 hel⟩
    | 5, ha => simp at ha; subst ha; exact ⟨hA.cell (hm1.cell d7 S2) (fun h => h), hr.1, hf1.keep hr.2 hel⟩
    | n + 6, ha => simp at ha) (by simp only [List.length_append, List.length_cons, List.length_nil] at l1 ⊢; omega) (by simp)
  clear hPB
  go_wp2_with (fail)
  go_region_held3 (fun _ => True) (trivial) ((go_at_call 105; refine HN.mono ?_; rintro e w2 ⟨rfl, v2, hw2, hm2', hf2'⟩))
  have hm2 := hA.trans hm2' (V := fun k => k = pw ∨ v1.ownBlock = some k) (fun _ _ h => h.elim) (fun _ _ h => h)
  have hf2 : Fr w1 v1 v2 := fun g hg => (hf2' g hg).imp id (fun h => by have := hA.size; omega)
  have hM := hm1.wr hf1 hm2
  have hF := hf1.trans hf2 hm1.size
  have hsl : xs ≠ [] → ∀ g, (Value.slice ao xs.length cap).ownBlock = some g → g < w.heap.size := hs.lt
  have H3 := listInt_w q pw v2 _ tb (to_ + 8) ao cap xs w2 (hc.mod hM S1) hw2 ⟨hq.1, hF.keep hq.2 hql⟩ ⟨hr.1, hF.keep hr.2 hel⟩ hxs hn (hM.cell dl S2) (hs.mod2 hM (fun hl g hg h => h.elim (hsv hl g hg).1 (hsv hl g hg).2)) (fun hl g hg => ⟨(hsv hl g hg).1, hF.keep (hsv hl g hg).2 (hsl hl g hg)⟩) (by simp only [List.length_append, List.length_cons, List.length_nil] at l1 l2 ⊢; omega)
  clear d0 d1 d2 d3 d4 d5 d6 d7 dl hm2' hf2'
  go_wp2_with (fail)
  refine H3.mono ?_
  rintro e w3 ⟨rfl, v3, hw3, hm3, hf3⟩
  go_wp2
  go_end0
  exact ⟨rfl, v3, by simpa [List.append_assoc] using hw3, hM.wr hF hm3, hF.trans hf3 hM.size⟩
set_option maxRecDepth 100000 in
set_option maxHeartbeats 2000000 in
theorem commit_w (q pw : Nat) (v : Value) (L : List Int) (tb to_ : Nat) (rs rr mm hp : Int) (ao : Option Addr) (cap : Nat) (xs : List Ey) (w : World) (hc : Cw w q pw) (h : Wr w pw v L) (hq : q ≠ pw ∧ v.ownBlock ≠ some q) (hr : tb ≠ pw ∧ v.ownBlock ≠ some tb) (hv : Nums [rs, rr, mm, hp]) (hxs : ∀ e ∈ xs, Nums e.ns) (hn : xs.length ≤ 8)
    (d0 : w.cell? ⟨tb, to_, none⟩ = some (.int .i64 rs)) (d1 : w.cell? ⟨tb, to_ + 1, none⟩ = some (.int .i64 rr)) (d2 : w.cell? ⟨tb, to_ + 2, none⟩ = some (.int .i64 mm)) (d3 : w.cell? ⟨tb, to_ + 3, none⟩ = some (.int .i64 hp)) (dl : w.cell? ⟨tb, to_ + 4, none⟩ = some (.slice ao xs.length cap)) (hs : SlE w (.slice ao xs.length cap) xs) (hsv : xs ≠ [] → ∀ g, (Value.slice ao xs.length cap).ownBlock = some g → g ≠ pw ∧ v.ownBlock ≠ some g) (hb : L.length + 700 ≤ 140737488355328) :
    Calls Try.prog 106 #[.pointer (some ⟨q, 0, none⟩), .pointer (some ⟨tb, to_, none⟩)] w fun e w' => e = .returned (.tuple #[]) ∧ ∃ v', Wr w' pw v' (L ++ (packs [rs, rr, mm, hp] ++ (packs [(xs.length : Int)] ++ packs (eys xs)))) ∧ Mod (fun k => k = pw ∨ v.ownBlock = some k) w w' ∧ Fr w v v' := by
  have hql : q < w.heap.size := lt_of_block hc.blk
  have hel : tb < w.heap.size := World.block_lt_of_cell? w _ d0
  have nR : Nums [rs, rr] := fun x hx => hv x (by simp at hx ⊢; omega)
  have nT : Nums [mm, hp] := fun x hx => hv x (by simp at hx ⊢; omega)
  have hpk : packs [rs, rr, mm, hp] = packs [rs, rr] ++ packs [mm, hp] := by simp [packs]
  rw [hpk]
  have S1 : ¬ (q = pw ∨ v.ownBlock = some q) := fun h => h.elim hq.1 hq.2
  have S2 : ¬ (tb = pw ∨ v.ownBlock = some tb) := fun h => h.elim hr.1 hr.2
  have H1 := ring_w q pw v L tb to_ rs rr w hc h nR hq hr d0 d1 (by omega)
  have l1 := packs_len [rs, rr]
  have l2 := packs_len [mm, hp]
  clear hpk hv
  go_enter Try.func106, Try.ntmps106
  go_wp2_with (fail)
  refine H1.mono ?_
  rintro e w1 ⟨rfl, v1, hw1, hm1, hf1⟩
  have hz1 := hm1.size
  have hA : Mod (fun _ => False) w1 (w1.alloc (.cells #[.pointer (some ⟨tb, to_ + 2, none⟩), .pointer (some ⟨tb, to_ + 3, none⟩)] 131)).drew := ((Mod.refl _ w1).alloc _).drew
  have hPB : PB (w1.alloc (.cells #[.pointer (some ⟨tb, to_ + 2, none⟩), .pointer (some ⟨tb, to_ + 3, none⟩)] 131)).drew w1.heap.size [(tb, to_ + 2), (tb, to_ + 3)] := PB.of (t := 131) (heap_alloc_new w1 (.cells #[.pointer (some ⟨tb, to_ + 2, none⟩), .pointer (some ⟨tb, to_ + 3, none⟩)] 131))
  have hpw1 : pw < w1.heap.size := lt_of_block hw1.blk
  have HN := numbers_w q pw v1 _ [mm, hp] [(tb, to_ + 2), (tb, to_ + 3)] w1.heap.size 2 _ ((hc.mod hm1 S1).mod hA (fun h => h)) (hw1.mod hA (fun h => h) (fun _ _ h => h)) nT rfl hPB ⟨by omega, fun e => by have := hw1.own.lt _ e; omega⟩ ⟨hq.1, hf1.keep hq.2 hql⟩ (fun j a ha => by
    match j, ha with
    | 0, ha => simp at ha; subst ha; exact ⟨hA.cell (hm1.cell d2 S2) (fun h => h), hr.1, hf1.keep hr.2 hel⟩
    | 1, ha => simp at ha; subst ha; exact ⟨hA.cell (hm1.cell d3 S2) (fun h => h), hr.1, hf1.keep hr.2 hel⟩
    | n + 2, ha => simp at ha) (by simp only [List.length_append, List.length_cons, List.length_nil] at l1 ⊢; omega) (by simp)
  clear hPB
  go_wp2_with (fail)
  go_region_held3 (fun _ => True) (trivial) ((go_at_call 105; refine HN.mono ?_; rintro e w2 ⟨rfl, v2, hw2, hm2', hf2'⟩))
  have hm2 := hA.trans hm2' (V := fun k => k = pw ∨ v1.ownBlock = some k) (fun _ _ h => h.elim) (fun _ _ h => h)
  have hf2 : Fr w1 v1 v2 := fun g hg => (hf2' g hg).imp id (fun h => by have := hA.size; omega)
  have hM := hm1.wr hf1 hm2
  have hF := hf1.trans hf2 hm1.size
  have hsl : xs ≠ [] → ∀ g, (Value.slice ao xs.length cap).ownBlock = some g → g < w.heap.size := hs.lt
  have H3 := listEntry_w q pw v2 _ tb (to_ + 4) ao cap xs w2 (hc.mod hM S1) hw2 ⟨hq.1, hF.keep hq.2 hql⟩ ⟨hr.1, hF.keep hr.2 hel⟩ hxs hn (hM.cell dl S2) (hs.mod hM (fun hl g hg h => h.elim (hsv hl g hg).1 (hsv hl g hg).2)) (fun hl g hg => ⟨(hsv hl g hg).1, hF.keep (hsv hl g hg).2 (hsl hl g hg)⟩) (by simp only [List.length_append, List.length_cons, List.length_nil] at l1 l2 ⊢; omega)
  clear d0 d1 d2 d3 dl hm2' hf2'
  go_wp2_with (fail)
  refine H3.mono ?_
  rintro e w3 ⟨rfl, v3, hw3, hm3, hf3⟩
  go_wp2
  go_end0
  exact ⟨rfl, v3, by simpa [List.append_assoc] using hw3, hM.wr hF hm3, hF.trans hf3 hM.size⟩
end Go.Proofs.Ytajhpnfpjickbaa
