/- Contracts of packet's coder: reads, fail, and number where it writes. Conditions: what may be written. Contracts of packet's coder where it writes: ring, entry. Conditions: what may be written. Contracts of packet's coder where it writes: message, data. Conditions: what may be written. -/
import Derived.Test.YtajhpnfpjickbaaK02
import Derived.Test.YtajhpnfpjickbaaK04
import Derived.Test.YtajhpnfpjickbaaK17
import Derived.Test.YtajhpnfpjickbaaK34
import Derived.Deep.RegionHeld3
namespace Go.Proofs.Ytajhpnfpjickbaa
open Go.RowKit
/-- A coder at block q that writes into the writer at pw. -/
structure Cw (w : World) (q pw : Nat) : Prop where
  blk : w.heap[q]? = some (.cells #[.pointer (some ⟨pw, 0, none⟩), .pointer none, .int .i64 0] 114 (0, 0))
theorem Cw.mod {S : Nat → Prop} {w w' : World} {q pw : Nat} (h : Cw w q pw) (hm : Mod S w w') (hq : ¬ S q) : Cw w' q pw := ⟨hm.obj h.blk hq⟩
theorem Cw.c0 {w : World} {q pw : Nat} (h : Cw w q pw) : w.cell? ⟨q, 0, none⟩ = some (.pointer (some ⟨pw, 0, none⟩)) := by simp [World.cell?, h.blk]
theorem Cw.c1 {w : World} {q pw : Nat} (h : Cw w q pw) : w.cell? ⟨q, 1, none⟩ = some (.pointer none) := by simp [World.cell?, h.blk]
theorem Cw.c2 {w : World} {q pw : Nat} (h : Cw w q pw) : w.cell? ⟨q, 2, none⟩ = some (.int .i64 0) := by simp [World.cell?, h.blk]
theorem reads_w (q pw : Nat) (w : World) (h : Cw w q pw) : Calls Try.prog 127 #[.pointer (some ⟨q, 0, none⟩)] w fun e w' => e = .returned (.bool false) ∧ w' = w := by
  have c1 := h.c1
  go_enter Try.func127, Try.ntmps127
  go_wp2
  go_ret
  exact ⟨rfl, rfl⟩
set_option maxHeartbeats 1000000 in
theorem number_w (q pw : Nat) (v : Value) (l : List Int) (b off x : Nat) (w : World) (h : Cw w q pw) (hw : Wr w pw v l) (hx : w.cell? ⟨b, off, none⟩ = some (.int .i64 (x : Int))) (hm : x ≤ 9007199254740991) (hl : l.length + 8 ≤ 140737488355328) (hq : q ≠ pw ∧ v.ownBlock ≠ some q) (hb : b ≠ pw ∧ v.ownBlock ≠ some b) :
    Calls Try.prog 100 #[.pointer (some ⟨q, 0, none⟩), .pointer (some ⟨b, off, none⟩)] w fun e w' => e = .returned (.tuple #[]) ∧ ∃ v', Wr w' pw v' (l ++ enc x) ∧ Mod (fun k => k = pw ∨ v.ownBlock = some k) w w' ∧ Fr w v v' := by
  have c0 := h.c0
  have c1 := h.c1
  have c2 := h.c2
  have HR := reads_w q pw w h
  have HP := fun W (hW : Wr W pw v l) => Put_ok pw v l (x : Int) W hW (by omega) (by omega) (by omega)
  clear h
  go_enter Try.func100, Try.ntmps100
  go_wp2_with (fail)
  refine HR.mono ?_
  rintro e w' ⟨rfl, rfl⟩
  go_wp2_with (fail)
  have hw' : Wr w'.drew pw v l := hw.mod (Mod.refl (fun _ => False) _).drew (fun h => h) (fun _ _ h => h)
  go_region_held3 (fun y => y.cell? ⟨q, 0, none⟩ = some (.pointer (some ⟨pw, 0, none⟩)) ∧ y.cell? ⟨b, off, none⟩ = some (.int .i64 (x : Int))) (first | exact ⟨c0, hx⟩ | exact trivial)
    ((go_at_call 79; refine (HP _ hw').mono ?_; rintro e w1 ⟨rfl, v1, hw1, hm1, hf1⟩; replace c0 := hm1.cell c0 (fun h => h.elim hq.1 hq.2); replace hx := hm1.cell hx (fun h => h.elim hb.1 hb.2)))
  rw [Int.toNat_natCast] at hw1
  have hm2 : Mod (fun k => k = pw ∨ v.ownBlock = some k) w' w1 := ((Mod.refl _ w').drew).trans hm1 (fun _ _ h => h) (fun _ _ h => h)
  go_wp2
  go_end0
  exact ⟨rfl, v1, hw1, hm2, fun g hg => hf1 g hg⟩
set_option maxRecDepth 100000 in
set_option maxHeartbeats 1000000 in
theorem numbers_w (q pw : Nat) (v : Value) (L vs : List Int) (ps : List (Nat × Nat)) (pb cap : Nat) (w : World) (hc : Cw w q pw) (h : Wr w pw v L) (hv : Nums vs) (hlen : ps.length = vs.length) (hpb : PB w pb ps) (hpq : pb ≠ pw ∧ v.ownBlock ≠ some pb) (hq : q ≠ pw ∧ v.ownBlock ≠ some q)
    (hx : ∀ j a, ps[j]? = some a → w.cell? ⟨a.1, a.2, none⟩ = some (.int .i64 (vs.getD j 0)) ∧ a.1 ≠ pw ∧ v.ownBlock ≠ some a.1) (hb : L.length + 8 * vs.length ≤ 140737488355328) (hn : vs.length ≤ 1000) :
    Calls Try.prog 105 #[.pointer (some ⟨q, 0, none⟩), .slice (some ⟨pb, 0, none⟩) vs.length cap] w fun e w' => e = .returned (.tuple #[]) ∧ ∃ v', Wr w' pw v' (L ++ packs vs) ∧ Mod (fun k => k = pw ∨ v.ownBlock = some k) w w' ∧ Fr w v v' := by
  go_enter Try.func105, Try.ntmps105
  go_wp2
  go_loopw [8] (fun i wr => ∃ (j : Nat) (v' : Value), i = .int .i64 j ∧ j ≤ vs.length ∧ Wr wr pw v' (L ++ packs (vs.take j)) ∧ Mod (fun k => k = pw ∨ v.ownBlock = some k) w wr ∧ Fr w v v') (fun i _ => vs.length - (intOf i).toNat)
  case atStart => exact ⟨0, v, rfl, by omega, by simpa [packs] using h, Mod.refl _ _, Fr.refl _ _⟩
  case round =>
    obtain ⟨j, v', rfl, hj, hw, hm, hfr⟩ := hrel
    clear h
    by_cases hlt : j < vs.length
    · obtain ⟨⟨ab, ao⟩, ha⟩ : ∃ a, ps[j]? = some a := ⟨_, List.getElem?_eq_getElem (by omega)⟩
      obtain ⟨x1, x2, x3⟩ := hx j _ ha
      have hpj := hm.cell (hpb j _ ha) (by rintro (h | h); exact hpq.1 h; exact hpq.2 h)
      rw [Nat.zero_add] at hpj
      have hcj := hm.cell x1 (by rintro (h | h); exact x2 h; exact x3 h)
      have hqc := hc.mod hm (by rintro (h | h); exact hq.1 h; exact hq.2 h)
      have hxn := hv _ (getD_mem hlt)
      have hl := packs_len (vs.take j)
      have HT : Hid (vs.take (j + 1) = vs.take j ++ [vs.getD j 0]) := take_snoc hlt
      obtain ⟨x, hxe⟩ := Int.eq_ofNat_of_zero_le hxn.1
      rw [hxe] at hcj HT hxn
      have hlen2 : (L ++ packs (vs.take j)).length + 8 ≤ 140737488355328 := by
        rw [List.length_append]
        rw [List.length_take] at hl
        omega
      have habl : ab < w.heap.size := World.block_lt_of_cell? w _ x1
      have hql : q < w.heap.size := lt_of_block hc.blk
      have HN := number_w q pw v' _ ab ao x wr hqc hw hcj (by omega) hlen2 ⟨hq.1, fun e => by rcases hfr q e with h | h; exact hq.2 h; omega⟩ ⟨x2, fun e => by rcases hfr ab e with h | h; exact x3 h; omega⟩
      have hji : (j : Int) < vs.length := by omega
      clear hl hx hqc hcj x1 ha hpb hxe
      go_wp2_with (fail)
      refine HN.mono ?_
      rintro e w1 ⟨rfl, v1, hw1, hm1, hf1⟩
      go_wp2
      go_roundw
      case rel =>
        refine ⟨j + 1, v1, by go_num, by omega, ?_, ?_, hfr.trans hf1 hm.size⟩
        · rw [HT.out, packs_snoc, ← List.append_assoc]
          simpa using hw1
        · refine hm.trans hm1 (fun _ _ h => h) ?_
          rintro i hi (h | h)
          · exact .inl h
          · rcases hfr i h with h' | h'
            · exact .inr h'
            · omega
      case measure => simp [intOf]; omega
    · obtain rfl : j = vs.length := by omega
      rw [List.take_length] at hw
      go_wp2
      go_end0
      exact ⟨rfl, v', hw, hm, hfr⟩
end Go.Proofs.Ytajhpnfpjickbaa
namespace Go.Proofs.Ytajhpnfpjickbaa
open Go.RowKit
theorem Fr.keep {w : World} {v v1 : Value} (h : Fr w v v1) {q : Nat} (hq : v.ownBlock ≠ some q) (hl : q < w.heap.size) : v1.ownBlock ≠ some q := fun e => by
  rcases h q e with h' | h'
  · exact hq h'
  · omega
theorem Mod.wr {w w1 w2 : World} {pw : Nat} {v v1 : Value} (h : Mod (fun k => k = pw ∨ v.ownBlock = some k) w w1) (hf : Fr w v v1) (h2 : Mod (fun k => k = pw ∨ v1.ownBlock = some k) w1 w2) : Mod (fun k => k = pw ∨ v.ownBlock = some k) w w2 := by
  refine h.trans h2 (fun _ _ h => h) ?_
  rintro i hi (h' | h')
  · exact .inl h'
  · rcases hf i h' with h'' | h''
    · exact .inr h''
    · omega
set_option maxHeartbeats 1000000 in
theorem ring_w (q pw : Nat) (v : Value) (L : List Int) (rb ro : Nat) (rs rr : Int) (w : World) (hc : Cw w q pw) (h : Wr w pw v L) (hv : Nums [rs, rr]) (hq : q ≠ pw ∧ v.ownBlock ≠ some q) (hr : rb ≠ pw ∧ v.ownBlock ≠ some rb)
    (h0 : w.cell? ⟨rb, ro, none⟩ = some (.int .i64 rs)) (h1 : w.cell? ⟨rb, ro + 1, none⟩ = some (.int .i64 rr)) (hb : L.length + 16 ≤ 140737488355328) :
    Calls Try.prog 107 #[.pointer (some ⟨q, 0, none⟩), .pointer (some ⟨rb, ro, none⟩)] w fun e w' => e = .returned (.tuple #[]) ∧ ∃ v', Wr w' pw v' (L ++ packs [rs, rr]) ∧ Mod (fun k => k = pw ∨ v.ownBlock = some k) w w' ∧ Fr w v v' := by
  have hA : Mod (fun _ => False) w (w.alloc (.cells #[.pointer (some ⟨rb, ro, none⟩), .pointer (some ⟨rb, ro + 1, none⟩)] 131)).drew := ((Mod.refl _ w).alloc _).drew
  have hPB : PB (w.alloc (.cells #[.pointer (some ⟨rb, ro, none⟩), .pointer (some ⟨rb, ro + 1, none⟩)] 131)).drew w.heap.size [(rb, ro), (rb, ro + 1)] := PB.of (t := 131) (heap_alloc_new w (.cells #[.pointer (some ⟨rb, ro, none⟩), .pointer (some ⟨rb, ro + 1, none⟩)] 131))
  have hpl : pw < w.heap.size := lt_of_block h.blk
  have HN := numbers_w q pw v L [rs, rr] [(rb, ro), (rb, ro + 1)] w.heap.size 2 _ (hc.mod hA (fun h => h)) (h.mod hA (fun h => h) (fun _ _ h => h)) hv rfl hPB ⟨by omega, fun e => by have := h.own.lt _ e; omega⟩ hq (fun j a ha => by
    match j, ha with
    | 0, ha => simp at ha; subst ha; exact ⟨hA.cell h0 (fun h => h), hr⟩
    | 1, ha => simp at ha; subst ha; exact ⟨hA.cell h1 (fun h => h), hr⟩
    | n + 2, ha => simp at ha) (by simp; omega) (by simp)
  clear hPB
  go_enter Try.func107, Try.ntmps107
  go_wp2_with (fail)
  go_region_held3 (fun _ => True) (trivial) ((go_at_call 105; refine HN.mono ?_; rintro e w1 ⟨rfl, v1, hw1, hm1, hf1⟩))
  have hm2 := hA.trans hm1 (V := fun k => k = pw ∨ v.ownBlock = some k) (fun _ _ h => h.elim) (fun _ _ h => h)
  go_wp2
  go_end0
  exact ⟨rfl, v1, hw1, hm2, fun g hg => (hf1 g hg).imp id (fun h => by have := hA.size; omega)⟩
set_option maxHeartbeats 2000000 in
theorem entry_w (q pw : Nat) (v : Value) (L : List Int) (eb eo : Nat) (y : Ey) (w : World) (hc : Cw w q pw) (h : Wr w pw v L) (hv : Nums y.ns) (hq : q ≠ pw ∧ v.ownBlock ≠ some q) (hr : eb ≠ pw ∧ v.ownBlock ≠ some eb)
    (h0 : w.cell? ⟨eb, eo, none⟩ = some (.int .i64 y.nd)) (h1 : w.cell? ⟨eb, eo + 1, none⟩ = some (.int .i64 y.os)) (h2 : w.cell? ⟨eb, eo + 2, none⟩ = some (.int .i64 y.od)) (h3 : w.cell? ⟨eb, eo + 3, none⟩ = some (.int .i64 y.aru)) (h4 : w.cell? ⟨eb, eo + 4, none⟩ = some (.int .i64 y.high)) (h5 : w.cell? ⟨eb, eo + 5, none⟩ = some (.int .i64 y.ck)) (hb : L.length + 48 ≤ 140737488355328) :
    Calls Try.prog 131 #[.pointer (some ⟨q, 0, none⟩), .pointer (some ⟨eb, eo, none⟩)] w fun e w' => e = .returned (.tuple #[]) ∧ ∃ v', Wr w' pw v' (L ++ packs y.ns) ∧ Mod (fun k => k = pw ∨ v.ownBlock = some k) w w' ∧ Fr w v v' := by
  obtain ⟨nd', os, od, ar, hh, ck⟩ := y
  dsimp only at h0 h1 h2 h3 h4 h5
  have hql : q < w.heap.size := lt_of_block hc.blk
  have hel : eb < w.heap.size := World.block_lt_of_cell? w _ h0
  have hpl : pw < w.heap.size := lt_of_block h.blk
  have n0 : 0 ≤ nd' ∧ nd' ≤ 9007199254740991 := hv _ (by simp [Ey.ns])
  have nR : Nums [os, od] := fun x hx => hv x (by simp [Ey.ns] at hx ⊢; omega)
  have nT : Nums [ar, hh, ck] := fun x hx => hv x (by simp [Ey.ns] at hx ⊢; omega)
  have hpk : packs (Ey.ns ⟨nd', os, od, ar, hh, ck⟩) = packs [nd'] ++ (packs [os, od] ++ packs [ar, hh, ck]) := by simp [Ey.ns, packs]
  rw [hpk]
  obtain ⟨nn, rfl⟩ := Int.eq_ofNat_of_zero_le n0.1
  have hp1 : packs [(nn : Int)] = enc nn := by simp [packs]
  rw [hp1]
  have H1 := number_w q pw v L eb eo nn w hc h h0 (by omega) (by omega) hq hr
  have l1 := enc_len nn
  clear hpk hp1 hv
  go_enter Try.func131, Try.ntmps131
  go_wp2_with (fail)
  refine H1.mono ?_
  rintro e w1 ⟨rfl, v1, hw1, hm1, hf1⟩
  have S1 : ¬ (q = pw ∨ v.ownBlock = some q) := fun h => h.elim hq.1 hq.2
  have S2 : ¬ (eb = pw ∨ v.ownBlock = some eb) := fun h => h.elim hr.1 hr.2
  have hz1 := hm1.size
  have H2 := ring_w q pw v1 _ eb (eo + 1) os od w1 (hc.mod hm1 S1) hw1 nR ⟨hq.1, hf1.keep hq.2 hql⟩ ⟨hr.1, hf1.keep hr.2 hel⟩ (hm1.cell h1 S2) (hm1.cell h2 S2) (by rw [List.length_append]; omega)
  have l2 := packs_len [os, od]
  go_wp2_with (fail)
  refine H2.mono ?_
  rintro e w2 ⟨rfl, v2, hw2, hm2, hf2⟩
  have hM := hm1.wr hf1 hm2
  have hF := hf1.trans hf2 hm1.size
  have hz2 := hm2.size
  have hA : Mod (fun _ => False) w2 (w2.alloc (.cells #[.pointer (some ⟨eb, eo + 3, none⟩), .pointer (some ⟨eb, eo + 4, none⟩), .pointer (some ⟨eb, eo + 5, none⟩)] 131)).drew := ((Mod.refl _ w2).alloc _).drew
  have hPB : PB (w2.alloc (.cells #[.pointer (some ⟨eb, eo + 3, none⟩), .pointer (some ⟨eb, eo + 4, none⟩), .pointer (some ⟨eb, eo + 5, none⟩)] 131)).drew w2.heap.size [(eb, eo + 3), (eb, eo + 4), (eb, eo + 5)] := PB.of (t := 131) (heap_alloc_new w2 (.cells #[.pointer (some ⟨eb, eo + 3, none⟩), .pointer (some ⟨eb, eo + 4, none⟩), .pointer (some ⟨eb, eo + 5, none⟩)] 131))
  have HN := numbers_w q pw v2 _ [ar, hh, ck] [(eb, eo + 3), (eb, eo + 4), (eb, eo + 5)] w2.heap.size 3 _ ((hc.mod hM S1).mod hA (fun h => h)) (hw2.mod hA (fun h => h) (fun _ _ h => h)) nT rfl hPB ⟨by omega, fun e => by have := hw2.own.lt _ e; omega⟩ ⟨hq.1, hF.keep hq.2 hql⟩ (fun j a ha => by
    match j, ha with
    | 0, ha => simp at ha; subst ha; exact ⟨hA.cell (hM.cell h3 S2) (fun h => h), hr.1, hF.keep hr.2 hel⟩
    | 1, ha => simp at ha; subst ha; exact ⟨hA.cell (hM.cell h4 S2) (fun h => h), hr.1, hF.keep hr.2 hel⟩
    | 2, ha => simp at ha; subst ha; exact ⟨hA.cell (hM.cell h5 S2) (fun h => h), hr.1, hF.keep hr.2 hel⟩
    | n + 3, ha => simp at ha) (by simp only [List.length_append, List.length_cons, List.length_nil] at l2 ⊢; omega) (by simp)
  clear hPB
  go_wp2_with (fail)
  go_region_held3 (fun _ => True) (trivial) ((go_at_call 105; refine HN.mono ?_; rintro e w3 ⟨rfl, v3, hw3, hm3, hf3⟩))
  have hm4 := hA.trans hm3 (V := fun k => k = pw ∨ v2.ownBlock = some k) (fun _ _ h => h.elim) (fun _ _ h => h)
  have hF4 : Fr w2 v2 v3 := fun g hg => (hf3 g hg).imp id (fun h => by have := hA.size; omega)
  go_wp2
  go_end0
  exact ⟨rfl, v3, by simpa [List.append_assoc] using hw3, hM.wr hF hm4, hF.trans hF4 hM.size⟩
end Go.Proofs.Ytajhpnfpjickbaa
namespace Go.Proofs.Ytajhpnfpjickbaa
open Go.RowKit
set_option maxRecDepth 100000 in
set_option maxHeartbeats 2000000 in
theorem message_w (q pw : Nat) (v : Value) (L : List Int) (mb mo : Nat) (k o lf i p ps g : Int) (s : Bool) (st rs rr sq : Int) (ao : Option Addr) (cap : Nat) (l : List Int) (w : World) (hc : Cw w q pw) (h : Wr w pw v L) (_hq : q ≠ pw ∧ v.ownBlock ≠ some q) (hs : Sl w (.slice ao l.length cap) l) (hk : chk ⟨k, o, lf, i, p, ps, g, s, st, rs, rr, sq, l⟩ = 0)
    (m0 : w.cell? ⟨mb, mo, none⟩ = some (.int .i64 k)) (m1 : w.cell? ⟨mb, mo + 1, none⟩ = some (.int .i64 o)) (m2 : w.cell? ⟨mb, mo + 2, none⟩ = some (.int .i64 lf)) (m3 : w.cell? ⟨mb, mo + 3, none⟩ = some (.int .i64 i)) (m4 : w.cell? ⟨mb, mo + 4, none⟩ = some (.int .i64 p)) (m5 : w.cell? ⟨mb, mo + 5, none⟩ = some (.int .i64 ps)) (m6 : w.cell? ⟨mb, mo + 6, none⟩ = some (.int .i64 g)) (m7 : w.cell? ⟨mb, mo + 7, none⟩ = some (.bool s)) (m8 : w.cell? ⟨mb, mo + 8, none⟩ = some (.int .i64 st)) (m9 : w.cell? ⟨mb, mo + 9, none⟩ = some (.int .i64 rs)) (m10 : w.cell? ⟨mb, mo + 10, none⟩ = some (.int .i64 rr)) (m11 : w.cell? ⟨mb, mo + 11, none⟩ = some (.int .i64 sq)) (m12 : w.cell? ⟨mb, mo + 12, none⟩ = some (.slice ao l.length cap)) (hb : L.length + 400 ≤ 140737488355328) :
    Calls Try.prog 128 #[.pointer (some ⟨q, 0, none⟩), .pointer (some ⟨mb, mo, none⟩)] w fun e w' => e = .returned (.tuple #[]) ∧ ∃ v', Wr w' pw v' (L ++ (enc (pk ⟨k, o, lf, i, p, ps, g, s, st, rs, rr, sq, l⟩).length ++ pk ⟨k, o, lf, i, p, ps, g, s, st, rs, rr, sq, l⟩)) ∧ Mod (fun k => k = pw ∨ v.ownBlock = some k) w w' ∧ Fr w v v' := by
  have c1 := hc.c1
  have c2 := hc.c2
  have HR := reads_w q pw w hc
  have HP := Pack_any k o lf i p ps g s st rs rr sq ao cap l w hs
  have hpr : ∀ c ∈ pk ⟨k, o, lf, i, p, ps, g, s, st, rs, rr, sq, l⟩, 0 ≤ c ∧ c ≤ 255 := pk_rng _ hs.rng
  have hpl := pk_len ⟨k, o, lf, i, p, ps, g, s, st, rs, rr, sq, l⟩
  have hbl := (chk_parts hk).1
  dsimp only at hpl hbl
  rw [hk] at HP
  generalize pk ⟨k, o, lf, i, p, ps, g, s, st, rs, rr, sq, l⟩ = PK at HP hpr hpl ⊢
  have hpw : pw < w.heap.size := lt_of_block h.blk
  have hvl := h.own.lt
  go_enter Try.func128, Try.ntmps128
  go_wp2_with (fail)
  refine HR.mono ?_
  rintro e w' ⟨rfl, rfl⟩
  go_wp2_with (fail)
  refine HP.mono ?_
  rintro e w1 ⟨v1, rfl, hm1, hok, _⟩
  obtain ⟨ho1, hf1⟩ := hok trivial
  have c0 := (hc.mod hm1 (fun h => h)).c0
  have HO := WOctets_any pw v v1 L PK w1 (h.mod hm1 (fun h => h) (fun _ _ h => h)) (ho1.sl hpr) (fun _ g hg => ⟨by have := hf1 g hg; omega, fun e => by have := hf1 g hg; have := hvl g e; omega⟩) (by omega)
  clear m0 m1 m2 m3 m4 m5 m6 m7 m8 m9 m10 m11 m12
  go_wp2_with (fail)
  refine HO.mono ?_
  rintro e w2 ⟨rfl, v2, hw2, hm2, hf2⟩
  have hm3 := hm1.trans hm2 (V := fun k => k = pw ∨ v.ownBlock = some k) (fun _ _ h => h.elim) (fun _ _ h => h)
  go_wp2
  go_end0
  exact ⟨rfl, v2, by simpa [List.append_assoc] using hw2, hm3, fun g hg => (hf2 g hg).imp id (fun h => by have := hm1.size; omega)⟩
set_option maxRecDepth 100000 in
set_option maxHeartbeats 2000000 in
theorem data_w (q pw : Nat) (v : Value) (L : List Int) (db do_ : Nat) (dq dr ds dn dt : Int) (k o lf i p ps g : Int) (s : Bool) (st rs rr sq : Int) (ao : Option Addr) (cap : Nat) (l : List Int) (w : World) (hc : Cw w q pw) (h : Wr w pw v L) (hq : q ≠ pw ∧ v.ownBlock ≠ some q) (hr : db ≠ pw ∧ v.ownBlock ≠ some db) (hs : Sl w (.slice ao l.length cap) l) (hsv : l ≠ [] → ∀ g, (Value.slice ao l.length cap).ownBlock = some g → g ≠ pw ∧ v.ownBlock ≠ some g) (hk : chk ⟨k, o, lf, i, p, ps, g, s, st, rs, rr, sq, l⟩ = 0) (hv : Nums [dq, dr, ds, dn, dt])
    (d0 : w.cell? ⟨db, do_, none⟩ = some (.int .i64 dq)) (d1 : w.cell? ⟨db, do_ + 1, none⟩ = some (.int .i64 dr)) (d2 : w.cell? ⟨db, do_ + 2, none⟩ = some (.int .i64 ds)) (d3 : w.cell? ⟨db, do_ + 3, none⟩ = some (.int .i64 dn)) (d4 : w.cell? ⟨db, do_ + 4, none⟩ = some (.int .i64 dt)) (d5 : w.cell? ⟨db, do_ + 5, none⟩ = some (.int .i64 k)) (d6 : w.cell? ⟨db, do_ + 6, none⟩ = some (.int .i64 o)) (d7 : w.cell? ⟨db, do_ + 7, none⟩ = some (.int .i64 lf)) (d8 : w.cell? ⟨db, do_ + 8, none⟩ = some (.int .i64 i)) (d9 : w.cell? ⟨db, do_ + 9, none⟩ = some (.int .i64 p)) (d10 : w.cell? ⟨db, do_ + 10, none⟩ = some (.int .i64 ps)) (d11 : w.cell? ⟨db, do_ + 11, none⟩ = some (.int .i64 g)) (d12 : w.cell? ⟨db, do_ + 12, none⟩ = some (.bool s)) (d13 : w.cell? ⟨db, do_ + 13, none⟩ = some (.int .i64 st)) (d14 : w.cell? ⟨db, do_ + 14, none⟩ = some (.int .i64 rs)) (d15 : w.cell? ⟨db, do_ + 15, none⟩ = some (.int .i64 rr)) (d16 : w.cell? ⟨db, do_ + 16, none⟩ = some (.int .i64 sq)) (d17 : w.cell? ⟨db, do_ + 17, none⟩ = some (.slice ao l.length cap)) (hb : L.length + 500 ≤ 140737488355328) :
    Calls Try.prog 103 #[.pointer (some ⟨q, 0, none⟩), .pointer (some ⟨db, do_, none⟩)] w fun e w' => e = .returned (.tuple #[]) ∧ ∃ v', Wr w' pw v' (L ++ (packs [dq, dr, ds, dn, dt] ++ (enc (pk ⟨k, o, lf, i, p, ps, g, s, st, rs, rr, sq, l⟩).length ++ pk ⟨k, o, lf, i, p, ps, g, s, st, rs, rr, sq, l⟩))) ∧ Mod (fun k => k = pw ∨ v.ownBlock = some k) w w' ∧ Fr w v v' := by
  have hql : q < w.heap.size := lt_of_block hc.blk
  have hel : db < w.heap.size := World.block_lt_of_cell? w _ d0
  have nR : Nums [dq, dr] := fun x hx => hv x (by simp at hx ⊢; omega)
  have nT : Nums [ds, dn, dt] := fun x hx => hv x (by simp at hx ⊢; omega)
  have hpk : packs [dq, dr, ds, dn, dt] = packs [dq, dr] ++ packs [ds, dn, dt] := by simp [packs]
  rw [hpk]
  have S1 : ¬ (q = pw ∨ v.ownBlock = some q) := fun h => h.elim hq.1 hq.2
  have S2 : ¬ (db = pw ∨ v.ownBlock = some db) := fun h => h.elim hr.1 hr.2

  have H1 := ring_w q pw v L db do_ dq dr w hc h nR hq hr d0 d1 (by omega)
  have l1 := packs_len [dq, dr]
  have l2 := packs_len [ds, dn, dt]
  clear hpk hv
  go_enter Try.func103, Try.ntmps103
  go_wp2_with (fail)
  refine H1.mono ?_
  rintro e w1 ⟨rfl, v1, hw1, hm1, hf1⟩
  have hz1 := hm1.size
  have hA : Mod (fun _ => False) w1 (w1.alloc (.cells #[.pointer (some ⟨db, do_ + 2, none⟩), .pointer (some ⟨db, do_ + 3, none⟩), .pointer (some ⟨db, do_ + 4, none⟩)] 131)).drew := ((Mod.refl _ w1).alloc _).drew
  have hPB : PB (w1.alloc (.cells #[.pointer (some ⟨db, do_ + 2, none⟩), .pointer (some ⟨db, do_ + 3, none⟩), .pointer (some ⟨db, do_ + 4, none⟩)] 131)).drew w1.heap.size [(db, do_ + 2), (db, do_ + 3), (db, do_ + 4)] := PB.of (t := 131) (heap_alloc_new w1 (.cells #[.pointer (some ⟨db, do_ + 2, none⟩), .pointer (some ⟨db, do_ + 3, none⟩), .pointer (some ⟨db, do_ + 4, none⟩)] 131))
  have hpw1 : pw < w1.heap.size := lt_of_block hw1.blk
  have HN := numbers_w q pw v1 _ [ds, dn, dt] [(db, do_ + 2), (db, do_ + 3), (db, do_ + 4)] w1.heap.size 3 _ ((hc.mod hm1 S1).mod hA (fun h => h)) (hw1.mod hA (fun h => h) (fun _ _ h => h)) nT rfl hPB ⟨by omega, fun e => by have := hw1.own.lt _ e; omega⟩ ⟨hq.1, hf1.keep hq.2 hql⟩ (fun j a ha => by
    match j, ha with
    | 0, ha => simp at ha; subst ha; exact ⟨hA.cell (hm1.cell d2 S2) (fun h => h), hr.1, hf1.keep hr.2 hel⟩
    | 1, ha => simp at ha; subst ha; exact ⟨hA.cell (hm1.cell d3 S2) (fun h => h), hr.1, hf1.keep hr.2 hel⟩
    | 2, ha => simp at ha; subst ha; exact ⟨hA.cell (hm1.cell d4 S2) (fun h => h), hr.1, hf1.keep hr.2 hel⟩
    | n + 3, ha => simp at ha) (by simp only [List.length_append, List.length_cons, List.length_nil] at l1 ⊢; omega) (by simp)
  clear hPB
  go_wp2_with (fail)
  go_region_held3 (fun _ => True) (trivial) ((go_at_call 105; refine HN.mono ?_; rintro e w2 ⟨rfl, v2, hw2, hm2', hf2'⟩))
  have hm2 := hA.trans hm2' (V := fun k => k = pw ∨ v1.ownBlock = some k) (fun _ _ h => h.elim) (fun _ _ h => h)
  have hf2 : Fr w1 v1 v2 := fun g hg => (hf2' g hg).imp id (fun h => by have := hA.size; omega)
  have hM := hm1.wr hf1 hm2
  have hF := hf1.trans hf2 hm1.size
  have hs2 : Sl w2 (.slice ao l.length cap) l := hs.mod2 hM (fun hl g hg h => h.elim (hsv hl g hg).1 (hsv hl g hg).2)
  have H3 := message_w q pw v2 _ db (do_ + 5) k o lf i p ps g s st rs rr sq ao cap l w2 (hc.mod hM S1) hw2 ⟨hq.1, hF.keep hq.2 hql⟩ hs2 hk (hM.cell d5 S2) (hM.cell d6 S2) (hM.cell d7 S2) (hM.cell d8 S2) (hM.cell d9 S2) (hM.cell d10 S2) (hM.cell d11 S2) (hM.cell d12 S2) (hM.cell d13 S2) (hM.cell d14 S2) (hM.cell d15 S2) (hM.cell d16 S2) (hM.cell d17 S2) (by simp only [List.length_append, List.length_cons, List.length_nil] at l1 l2 ⊢; omega)
  clear d0 d1 d2 d3 d4 d5 d6 d7 d8 d9 d10 d11 d12 d13 d14 d15 d16 d17 hm2' hf2'
  go_wp2_with (fail)
  refine H3.mono ?_
  rintro e w3 ⟨rfl, v3, hw3, hm3, hf3⟩
  go_wp2
  go_end0
  exact ⟨rfl, v3, by simpa [List.append_assoc] using hw3, hM.wr hF hm3, hF.trans hf3 hM.size⟩
end Go.Proofs.Ytajhpnfpjickbaa
