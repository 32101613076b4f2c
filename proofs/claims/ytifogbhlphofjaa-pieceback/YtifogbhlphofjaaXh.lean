/- Contract of piece's Split, of all messages and payloads. Conditions: sizes that a slice of bytes has. -/
import Derived.Test.YtifogbhlphofjaaXg
import Derived.Deep.Light
namespace Go.Proofs.Ytifogbhlphofjaa
open Go.RowKit Go.Maps
/-- The parts below j lie in the block G, each with bytes of its own, in blocks from B on. -/
structure Pa (w : World) (G B : Nat) (m : Ms) (n : Nat) (pl : List Int) (V : Nat → Value) (Z : Array Value) (j : Nat) : Prop where
  bk : Bk w G 28 Z
  sz : Z.size = n * 13
  cells : ∀ i, i < j → ∀ t c, (mcl (prt m n pl i) (V i))[t]? = some c → Z[i * 13 + t]? = some c
  own : ∀ i, i < j → Own w (V i) (chunk pl i) ∧ (∀ b, (V i).ownBlock = some b → B ≤ b)
  apart : ∀ i i', i < j → i' < j → i ≠ i' → ∀ b, (V i).ownBlock = some b → (V i').ownBlock ≠ some b
theorem Pa.mod {S : Nat → Prop} {w w' : World} {G B : Nat} {m : Ms} {n : Nat} {pl : List Int} {V : Nat → Value} {Z : Array Value} {j : Nat} (h : Pa w G B m n pl V Z j) (hm : Mod S w w') (hG : ¬ S G) (hV : ∀ i, i < j → ∀ b, (V i).ownBlock = some b → ¬ S b) : Pa w' G B m n pl V Z j :=
  ⟨h.bk.mod hm hG, h.sz, h.cells, fun i hi => ⟨(h.own i hi).1.mod hm (hV i hi), (h.own i hi).2⟩, h.apart⟩
theorem mcl_len (m : Ms) (v : Value) : (mcl m v).length = 13 := rfl
/-- One part more. -/
theorem Pa.step {w w1 : World} {G B : Nat} {m : Ms} {n : Nat} {pl : List Int} {V : Nat → Value} {Z : Array Value} {j : Nat} (h : Pa w G B m n pl V Z j) (hj : j < n) {v : Value} (hv : Own w v (chunk pl j)) (hB : ∀ b, v.ownBlock = some b → B ≤ b) (hn : ∀ i, i < j → ∀ b, (V i).ownBlock = some b → v.ownBlock ≠ some b)
    (hw : w1 = w.setCells G (j * 13) (mcl (prt m n pl j) v)) : Pa w1 G B m n pl (fun i => if i = j then v else V i) (sets' Z (j * 13) (mcl (prt m n pl j) v)) (j + 1) := by
  have hz := h.sz
  have hm := setCells_mod G (mcl (prt m n pl j) v) (j * 13) w
  have hbk := Bk.stores (mcl (prt m n pl j) v) (j * 13) h.bk
  have hne : ∀ {u : Value} {q : List Int}, Own w u q → ∀ b, u.ownBlock = some b → ¬ b = G := fun hu b hb e => by
    obtain ⟨cur, hc⟩ := hu.kind hb
    rw [e, h.bk.at'] at hc
    simp at hc
  subst hw
  refine ⟨hbk, by rw [sets'_size, hz], fun i hi t c hc => ?_, fun i hi => ?_, fun i i' hi hi' hne' b hb => ?_⟩
  · rw [sets'_get _ _ _ _ (by rw [mcl_len, hz]; omega), mcl_len]
    have ht : t < 13 := by
      rcases Nat.lt_or_ge t 13 with h | h
      · exact h
      · rw [List.getElem?_eq_none (by rw [mcl_len]; exact h)] at hc; cases hc
    by_cases e : i = j
    · subst e
      rw [if_pos rfl] at hc
      rw [if_pos ⟨by omega, by omega⟩, show i * 13 + t - i * 13 = t by omega]
      exact hc
    · rw [if_neg e] at hc
      rw [if_neg (by omega)]
      exact h.cells i (by omega) t c hc
  · by_cases e : i = j
    · rw [if_pos e, e]
      exact ⟨hv.mod hm (hne hv), hB⟩
    · rw [if_neg e]
      obtain ⟨a1, a2⟩ := h.own i (by omega)
      exact ⟨a1.mod hm (hne a1), a2⟩
  · by_cases e : i = j
    · rw [if_pos e] at hb
      rw [if_neg (by omega)]
      exact fun e2 => hn i' (by omega) b e2 hb
    · rw [if_neg e] at hb
      by_cases e' : i' = j
      · rw [if_pos e']
        exact hn i (by omega) b hb
      · rw [if_neg e']
        exact h.apart i i' (by omega) (by omega) hne' b hb
theorem wpList_store_any {ops : Array Oper} {rest : List Oper} {op : Oper} {a : Act} {w : World} {Q : Exit → Act → World → Prop} {t : TypeId} {n : Nat} (hi : (Try.prog.info? t).map (·.size) = some n) (hgd : op.guard = none) (hdt : op.dst = none) (x y : Operand) (ho : op.op = .store t x y)
    (b o : Nat) (cells : Array Value) (hx : a.eval x = .pointer (some ⟨b, o, none⟩)) (hy : a.eval y = .agg cells) (hth : w.there b o n) (hcs : cells.size = n) (h1 : cells.toList.all (·.oneCell') = true)
    (h : wpList Try.prog ops Q rest a (w.setCells b o cells.toList)) : wpList Try.prog ops Q (op :: rest) a w :=
  wpList_store_mid (P := Try.prog) hgd t x y ho b o cells hx hy (by rw [hcs]; exact hth) (by rw [hi, hcs]) (by rw [← Array.all_toList]; exact h1) (by rw [hdt]; exact h)
theorem infoMz' : (Try.prog.info? 28).map (fun i => (i.zero.isSome, i.size, i.bytes)) = some (true, 13, 120) := by kernel_rfl
theorem infoMz : ∃ i z, Try.prog.info? 28 = some i ∧ i.zero = some z ∧ i.size = 13 ∧ i.bytes = 120 := by
  have h := infoMz'
  cases hi : Try.prog.info? 28 with
  | none => rw [hi] at h; cases h
  | some i =>
    rw [hi] at h
    simp only [Option.map_some, Option.some.injEq, Prod.mk.injEq] at h
    obtain ⟨z, hz⟩ := Option.isSome_iff_exists.1 h.1
    exact ⟨i, z, rfl, hz, h.2.1, h.2.2⟩
theorem make_msgs (n : Nat) (hn : n ≤ 5) : ∃ Z : Array Value, Z.size = n * 13 ∧ ∀ W : World, (Instr.makeSlice 31 (.int .i64 (n : Int)) (.int .i64 (n : Int))).run Try.prog W = .ok (.slice (some ⟨W.heap.size, 0, none⟩) n n) (W.alloc (.cells Z 28)) := by
  obtain ⟨i0, z, hi, hz0, hz1, hz2⟩ := infoMz
  refine ⟨madeCells z.cells (n * i0.size), ?_, fun W => ?_⟩
  · rw [size_madeCells, hz1]
  · have h := run_make (P := Try.prog) W 31 28 i0 z Try.underlying31 hi hz0 .i64 .i64 (n : Int) (n : Int) (by omega) (by omega) (by rw [hz2]; omega) (by omega)
    rw [h]
    simp
set_option maxRecDepth 100000 in
set_option maxHeartbeats 2000000 in
theorem Split_ok (k o lf i p ps g : Int) (s : Bool) (st rs rr sq : Int) (ao : Option Addr) (cap : Nat) (l : List Int) (ap : Option Addr) (cp : Nat) (pl : List Int) (w : World) (hs : Sl w (.slice ao l.length cap) l) (hp : Sl w (.slice ap pl.length cp) pl) (hB : isB ⟨k, o, lf, i, p, ps, g, s, st, rs, rr, sq, l⟩ = true) (hL : pl.length ≤ 200) :
    Calls Try.prog 10 #[.agg #[.int .i64 k, .int .i64 o, .int .i64 lf, .int .i64 i, .int .i64 p, .int .i64 ps, .int .i64 g, .bool s, .int .i64 st, .int .i64 rs, .int .i64 rr, .int .i64 sq, .slice ao l.length cap], .slice ap pl.length cp] w fun e w' => ∃ G V Z, e = .returned (.tuple #[.slice (some ⟨G, 0, none⟩) (pcn pl.length) (pcn pl.length), .int .i64 0]) ∧ Pa w' G w.heap.size ⟨k, o, lf, i, p, ps, g, s, st, rs, rr, sq, l⟩ (pcn pl.length) pl V Z (pcn pl.length) ∧ w.heap.size ≤ G ∧ Mod (fun _ => False) w w' := by
  have hA := (Mod.refl (fun _ => False) w).alloc (.cells #[.int .i64 k, .int .i64 o, .int .i64 lf, .int .i64 i, .int .i64 p, .int .i64 ps, .int .i64 g, .bool s, .int .i64 st, .int .i64 rs, .int .i64 rr, .int .i64 sq, .slice ao l.length cap] 28)
  have HB := isBlank_any k o lf i p ps g s st rs rr sq ao cap l _ (hs.mod hA (fun _ _ h => h))
  rw [hB] at HB
  clear hB
  have HC := fun W => count_any pl.length W hL
  have hn1 : 1 ≤ pcn pl.length ∧ pcn pl.length ≤ 5 ∧ pl.length ≤ pcn pl.length * 48 ∧ (pcn pl.length - 1) * 48 ≤ pl.length := by unfold pcn; omega
  generalize pcn pl.length = n at HC hn1 ⊢
  obtain ⟨n1, n5, n48, nl⟩ := hn1
  obtain ⟨Z0, hZ0, hmk⟩ := make_msgs n n5
  have hB0 := Bk.new w #[.int .i64 k, .int .i64 o, .int .i64 lf, .int .i64 i, .int .i64 p, .int .i64 ps, .int .i64 g, .bool s, .int .i64 st, .int .i64 rs, .int .i64 rr, .int .i64 sq, .slice ao l.length cap] 28
  obtain ⟨b0, hb0⟩ : ∃ b, b = w.heap.size := ⟨_, rfl⟩
  rw [← hb0] at hB0
  have HLp : Hid (pl.length ≤ 200) := hL
  have hLi : ¬ (200 : Int) < (pl.length : Int) := by omega
  clear hL
  go_enter Try.func10, Try.ntmps10
  go_wp2_with (fail)
  refine HB.mono ?_
  rintro e w1 ⟨rfl, hm1⟩
  replace hB0 := hB0.mod hm1 (fun h => h)
  have hM1 := hA.trans hm1 (V := fun _ => False) (fun _ _ h => h) (fun _ _ h => h)
  have c5 : w1.cell? ⟨b0, 5, none⟩ = some (.int .i64 ps) := hB0.cellv (j := 5) rfl
  have z5 := hB0.frz 5
  rw [← hb0]
  have HB0 : Hid (b0 = w.heap.size) := hb0
  clear hb0 HB
  go_wp2_with (fail)
  refine (HC _).mono ?_
  rintro e w1 ⟨rfl, rfl⟩
  go_wp2_with (fail)
  have hm2 := (Mod.refl (fun b => b = b0) w1).setCell ⟨b0, 5, none⟩ (.int .i64 (n : Int)) (.inl rfl)
  have hB2 := hB0.set 5 (.int .i64 (n : Int))
  simp only [List.setIfInBounds_toArray, List.set_cons_succ, List.set_cons_zero] at hB2
  have hsz2 : (w1.setCell ⟨b0, 5, none⟩ (.int .i64 (n : Int))).heap.size = w1.heap.size := by simp [World.setCell]
  generalize w1.setCell ⟨b0, 5, none⟩ (.int .i64 (n : Int)) = w2 at *
  have hM2 : Mod (fun _ => False) w w2 := hM1.trans hm2 (fun _ _ h => h) (fun b hb e => by rw [e, HB0.out] at hb; exact absurd hb (Nat.lt_irrefl _))
  have hG := Bk.new w2 Z0 28
  have hM3 := hM2.alloc (.cells Z0 28)
  replace hB2 := hB2.mod ((Mod.refl (fun _ => False) w2).alloc (.cells Z0 28)) (fun h => h)
  obtain ⟨G, hGe⟩ : ∃ G, G = w1.heap.size := ⟨_, rfl⟩
  rw [hsz2, ← hGe] at hG
  rw [← hGe]
  have HGG : Hid (w.heap.size ≤ G ∧ b0 ≠ G) := by
    show _ ∧ _
    have a3 := hB0.lt
    rw [hGe]
    exact ⟨hM1.size, Nat.ne_of_lt a3⟩
  clear hGe hsz2
  generalize w2.alloc (.cells Z0 28) = w3 at *
  clear hm2 hM2 hB0 c5 z5 hM1 hm1 hA HC hmk
  go_loopw [27, 7, 8, 9] (fun ci x7 x8 x9 wr => ∃ (j : Nat) (pj : Int) (bj : Value) (V : Nat → Value) (Z : Array Value), ci = .int .i64 (j : Int) ∧ j ≤ n ∧ bj.oneCell' = true ∧ Bk wr b0 28 #[.int .i64 k, .int .i64 o, .int .i64 lf, .int .i64 i, .int .i64 pj, .int .i64 (n : Int), .int .i64 g, .bool s, .int .i64 st, .int .i64 rs, .int .i64 rr, .int .i64 sq, bj] ∧ Pa wr G w.heap.size ⟨k, o, lf, i, p, ps, g, s, st, rs, rr, sq, l⟩ n pl V Z j ∧ Mod (fun _ => False) w wr) (fun ci _ _ _ _ => n - (intOf ci).toNat)
  case atStart => exact ⟨0, p, .slice ao l.length cap, fun _ => .slice none 0 0, Z0, rfl, Nat.zero_le _, rfl, hB2, ⟨hG, hZ0, fun _ h => absurd h (Nat.not_lt_zero _), fun _ h => absurd h (Nat.not_lt_zero _), fun _ _ h => absurd h (Nat.not_lt_zero _)⟩, hM3⟩
  case round =>
    obtain ⟨j, pj, bj, V, Z, rfl, hj, hbj, hBr, hPa, hMr⟩ := hrel
    clear hB2 hG hM3
    by_cases hjn : j < n
    · have hjn' : (j : Int) < (n : Int) := by go_light; omega
      have hK48 : j * 48 ≤ pl.length := by
        have : j ≤ n - 1 := by go_light; omega
        exact Nat.le_trans (Nat.mul_le_mul_right 48 this) nl
      obtain ⟨K, hK⟩ : ∃ K, K = j * 48 := ⟨_, rfl⟩
      obtain ⟨E, hE⟩ : ∃ E, E = min (K + 48) pl.length := ⟨_, rfl⟩
      have hKi : (j : Int) * 48 = (K : Int) := by go_light; omega
      have HKE : Hid (K ≤ E ∧ E ≤ pl.length ∧ chunk pl j = (pl.drop K).take (E - K)) := by
        show _ ∧ _ ∧ _
        refine ⟨by go_light; omega, by go_light; omega, ?_⟩
        unfold chunk
        rw [hE, hK]
      have hpr : Sl wr (.slice ap pl.length cp) pl := hp.mod hMr (fun _ _ h => h)
      have hcl : ∀ u, Sl wr u ((pl.drop K).take (E - K)) → _ := fun u hu => clone_any u _ wr hu (by have := HLp.out; simp; go_light; omega)
      rw [← HKE.out.2.2] at hcl
      obtain ⟨c1, hc1⟩ : ∃ c, c = chunk pl j := ⟨_, rfl⟩
      rw [← hc1] at hcl
      have HC1 : Hid (c1 = chunk pl j) := hc1
      clear hc1
      have d4 : wr.cell? ⟨b0, 4, none⟩ = some (.int .i64 pj) := hBr.cellv (j := 4) rfl
      have hEc : (¬ (pl.length : Int) < (K : Int) + 48 ∧ (K : Int) + 48 = (E : Int)) ∨ ((pl.length : Int) < (K : Int) + 48 ∧ pl.length = E) := by go_light; omega
      clear hE hK hK48
      have HE2 : Hid (Sl wr (.slice ap pl.length cp) pl) := hpr
      rcases hEc with ⟨e1, e2⟩ | ⟨e1, e2⟩
      · skip
        go_upto_region 13 with (first | (refine wpList_cut rfl _ _ _ rfl ap cp K E pl rfl rfl rfl hpr (HKE.out.1) (HKE.out.2.1) ?_; intro u hu; rw [← HKE.out.2.2, ← HC1.out] at hu; replace hcl := hcl u hu) | (go_at_call 28; refine hcl.mono ?_; rintro e w4 ⟨v1, rfl, ho1, hm4, hv1⟩; obtain ⟨a1, k1, e1'⟩ := ho1.shape; subst e1'; have hB4 := hBr.mod hm4 (fun h => h); replace d4 : w4.cell? ⟨b0, 4, none⟩ = some (.int .i64 pj) := hB4.cellv (j := 4) rfl; have z4 := hB4.frz 4; have d12 : w4.cell? ⟨b0, 12, none⟩ = some bj := hB4.cellv (j := 12) rfl; have z12 := hB4.frz 12))
        have hm5 := ((Mod.refl (fun b => b = b0) w4).setCell ⟨b0, 4, none⟩ (.int .i64 (j : Int)) (.inl rfl)).setCell ⟨b0, 12, none⟩ (.slice a1 c1.length k1) (.inl rfl)
        have hB5 := (hB4.set 4 (.int .i64 (j : Int))).set 12 (.slice a1 c1.length k1)
        simp only [List.setIfInBounds_toArray, List.set_cons_succ, List.set_cons_zero] at hB5
        generalize (w4.setCell ⟨b0, 4, none⟩ (.int .i64 (j : Int))).setCell ⟨b0, 12, none⟩ (.slice a1 c1.length k1) = w5 at *
        have hneb : ∀ {u : Value} {q : List Int}, Own w4 u q → ∀ b, u.ownBlock = some b → ¬ b = b0 := fun hu b hb e => by
          obtain ⟨cur, hc⟩ := hu.kind hb
          rw [e, hB4.at'] at hc
          simp at hc
        have hP4 := hPa.mod hm4 (fun h => h) (fun _ _ _ _ h => h)
        have hP5 := hP4.mod hm5 (fun e => HGG.out.2 e.symm) (fun i hi => hneb (hP4.own i hi).1)
        have ho5 := ho1.mod hm5 (hneb ho1)
        have hM5 : Mod (fun _ => False) w w5 := (hMr.trans hm4 (V := fun _ => False) (fun _ _ h => h) (fun _ _ h => h)).trans hm5 (fun _ _ h => h) (fun b hb e => by rw [e, HB0.out] at hb; exact absurd hb (Nat.lt_irrefl _))
        have hsz : Hid (w.heap.size ≤ wr.heap.size) := hMr.size
        have hth : w5.there G (j * 13) 13 := hP5.bk.there (by rw [hP5.sz]; go_light; omega)
        have hnew : ∀ i, i < j → ∀ b, (V i).ownBlock = some b → (Value.slice a1 c1.length k1).ownBlock ≠ some b := fun i hi b hb e => by
          have q1 := (hPa.own i hi).1.lt b hb
          have q2 := hv1 b e
          exact absurd q1 (Nat.not_lt.2 q2)
        have hst := fun (w6 : World) hw => hP5.step (w1 := w6) hjn (HC1.out ▸ ho5) (fun b hb => Nat.le_trans hsz.out (hv1 b hb)) hnew hw
        have hM6 := hM5.trans (setCells_mod G (mcl (prt ⟨k, o, lf, i, p, ps, g, s, st, rs, rr, sq, l⟩ n pl j) (.slice a1 c1.length k1)) (j * 13) w5) (V := fun _ => False) (fun _ _ h => h) (fun b hb e => by rw [e] at hb; exact absurd hb (Nat.not_lt.2 HGG.out.1))
        have hB6 := hB5.mod (setCells_mod G (mcl (prt ⟨k, o, lf, i, p, ps, g, s, st, rs, rr, sq, l⟩ n pl j) (.slice a1 c1.length k1)) (j * 13) w5) HGG.out.2
        have m0 : w5.cell? ⟨b0, 0, none⟩ = some (.int .i64 k) := hB5.cellv (j := 0) rfl
        have m1 : w5.cell? ⟨b0, 1, none⟩ = some (.int .i64 o) := hB5.cellv (j := 1) rfl
        have m2 : w5.cell? ⟨b0, 2, none⟩ = some (.int .i64 lf) := hB5.cellv (j := 2) rfl
        have m3 : w5.cell? ⟨b0, 3, none⟩ = some (.int .i64 i) := hB5.cellv (j := 3) rfl
        have m4 : w5.cell? ⟨b0, 4, none⟩ = some (.int .i64 (j : Int)) := hB5.cellv (j := 4) rfl
        have m5 : w5.cell? ⟨b0, 5, none⟩ = some (.int .i64 (n : Int)) := hB5.cellv (j := 5) rfl
        have m6 : w5.cell? ⟨b0, 6, none⟩ = some (.int .i64 g) := hB5.cellv (j := 6) rfl
        have m7 : w5.cell? ⟨b0, 7, none⟩ = some (.bool s) := hB5.cellv (j := 7) rfl
        have m8 : w5.cell? ⟨b0, 8, none⟩ = some (.int .i64 st) := hB5.cellv (j := 8) rfl
        have m9 : w5.cell? ⟨b0, 9, none⟩ = some (.int .i64 rs) := hB5.cellv (j := 9) rfl
        have m10 : w5.cell? ⟨b0, 10, none⟩ = some (.int .i64 rr) := hB5.cellv (j := 10) rfl
        have m11 : w5.cell? ⟨b0, 11, none⟩ = some (.int .i64 sq) := hB5.cellv (j := 11) rfl
        have m12 : w5.cell? ⟨b0, 12, none⟩ = some (.slice a1 c1.length k1) := hB5.cellv (j := 12) rfl
        clear d4 z4 d12 z12 hm4 hm5 hB4 hBr hPa hP4 hP5 hneb hnew hu hcl hpr HE2 e1
        go_upto_region 14 with (refine wpList_store_any infoMs (by rfl) (by rfl) _ _ (by rfl) G (j * 13) #[.int .i64 k, .int .i64 o, .int .i64 lf, .int .i64 i, .int .i64 (j : Int), .int .i64 (n : Int), .int .i64 g, .bool s, .int .i64 st, .int .i64 rs, .int .i64 rr, .int .i64 sq, .slice a1 c1.length k1] (by rfl) (by rfl) hth rfl rfl ?_)
        clear m0 m1 m2 m3 m4 m5 m6 m7 m8 m9 m10 m11 m12 hth
        go_wp2_with (fail)
        go_roundw
        case rel => exact ⟨j + 1, (j : Int), _, _, _, by go_num, hjn, rfl, hB6, hst _ rfl, hM6⟩
        case measure => simp [intOf]; go_light; omega
      · subst e2
        go_upto_region 13 with (first | (refine wpList_cut rfl _ _ _ rfl ap cp K pl.length pl rfl rfl rfl hpr (HKE.out.1) (HKE.out.2.1) ?_; intro u hu; rw [← HKE.out.2.2, ← HC1.out] at hu; replace hcl := hcl u hu) | (go_at_call 28; refine hcl.mono ?_; rintro e w4 ⟨v1, rfl, ho1, hm4, hv1⟩; obtain ⟨a1, k1, e1'⟩ := ho1.shape; subst e1'; have hB4 := hBr.mod hm4 (fun h => h); replace d4 : w4.cell? ⟨b0, 4, none⟩ = some (.int .i64 pj) := hB4.cellv (j := 4) rfl; have z4 := hB4.frz 4; have d12 : w4.cell? ⟨b0, 12, none⟩ = some bj := hB4.cellv (j := 12) rfl; have z12 := hB4.frz 12))
        have hm5 := ((Mod.refl (fun b => b = b0) w4).setCell ⟨b0, 4, none⟩ (.int .i64 (j : Int)) (.inl rfl)).setCell ⟨b0, 12, none⟩ (.slice a1 c1.length k1) (.inl rfl)
        have hB5 := (hB4.set 4 (.int .i64 (j : Int))).set 12 (.slice a1 c1.length k1)
        simp only [List.setIfInBounds_toArray, List.set_cons_succ, List.set_cons_zero] at hB5
        generalize (w4.setCell ⟨b0, 4, none⟩ (.int .i64 (j : Int))).setCell ⟨b0, 12, none⟩ (.slice a1 c1.length k1) = w5 at *
        have hneb : ∀ {u : Value} {q : List Int}, Own w4 u q → ∀ b, u.ownBlock = some b → ¬ b = b0 := fun hu b hb e => by
          obtain ⟨cur, hc⟩ := hu.kind hb
          rw [e, hB4.at'] at hc
          simp at hc
        have hP4 := hPa.mod hm4 (fun h => h) (fun _ _ _ _ h => h)
        have hP5 := hP4.mod hm5 (fun e => HGG.out.2 e.symm) (fun i hi => hneb (hP4.own i hi).1)
        have ho5 := ho1.mod hm5 (hneb ho1)
        have hM5 : Mod (fun _ => False) w w5 := (hMr.trans hm4 (V := fun _ => False) (fun _ _ h => h) (fun _ _ h => h)).trans hm5 (fun _ _ h => h) (fun b hb e => by rw [e, HB0.out] at hb; exact absurd hb (Nat.lt_irrefl _))
        have hsz : Hid (w.heap.size ≤ wr.heap.size) := hMr.size
        have hth : w5.there G (j * 13) 13 := hP5.bk.there (by rw [hP5.sz]; go_light; omega)
        have hnew : ∀ i, i < j → ∀ b, (V i).ownBlock = some b → (Value.slice a1 c1.length k1).ownBlock ≠ some b := fun i hi b hb e => by
          have q1 := (hPa.own i hi).1.lt b hb
          have q2 := hv1 b e
          exact absurd q1 (Nat.not_lt.2 q2)
        have hst := fun (w6 : World) hw => hP5.step (w1 := w6) hjn (HC1.out ▸ ho5) (fun b hb => Nat.le_trans hsz.out (hv1 b hb)) hnew hw
        have hM6 := hM5.trans (setCells_mod G (mcl (prt ⟨k, o, lf, i, p, ps, g, s, st, rs, rr, sq, l⟩ n pl j) (.slice a1 c1.length k1)) (j * 13) w5) (V := fun _ => False) (fun _ _ h => h) (fun b hb e => by rw [e] at hb; exact absurd hb (Nat.not_lt.2 HGG.out.1))
        have hB6 := hB5.mod (setCells_mod G (mcl (prt ⟨k, o, lf, i, p, ps, g, s, st, rs, rr, sq, l⟩ n pl j) (.slice a1 c1.length k1)) (j * 13) w5) HGG.out.2
        have m0 : w5.cell? ⟨b0, 0, none⟩ = some (.int .i64 k) := hB5.cellv (j := 0) rfl
        have m1 : w5.cell? ⟨b0, 1, none⟩ = some (.int .i64 o) := hB5.cellv (j := 1) rfl
        have m2 : w5.cell? ⟨b0, 2, none⟩ = some (.int .i64 lf) := hB5.cellv (j := 2) rfl
        have m3 : w5.cell? ⟨b0, 3, none⟩ = some (.int .i64 i) := hB5.cellv (j := 3) rfl
        have m4 : w5.cell? ⟨b0, 4, none⟩ = some (.int .i64 (j : Int)) := hB5.cellv (j := 4) rfl
        have m5 : w5.cell? ⟨b0, 5, none⟩ = some (.int .i64 (n : Int)) := hB5.cellv (j := 5) rfl
        have m6 : w5.cell? ⟨b0, 6, none⟩ = some (.int .i64 g) := hB5.cellv (j := 6) rfl
        have m7 : w5.cell? ⟨b0, 7, none⟩ = some (.bool s) := hB5.cellv (j := 7) rfl
        have m8 : w5.cell? ⟨b0, 8, none⟩ = some (.int .i64 st) := hB5.cellv (j := 8) rfl
        have m9 : w5.cell? ⟨b0, 9, none⟩ = some (.int .i64 rs) := hB5.cellv (j := 9) rfl
        have m10 : w5.cell? ⟨b0, 10, none⟩ = some (.int .i64 rr) := hB5.cellv (j := 10) rfl
        have m11 : w5.cell? ⟨b0, 11, none⟩ = some (.int .i64 sq) := hB5.cellv (j := 11) rfl
        have m12 : w5.cell? ⟨b0, 12, none⟩ = some (.slice a1 c1.length k1) := hB5.cellv (j := 12) rfl
        clear d4 z4 d12 z12 hm4 hm5 hB4 hBr hPa hP4 hP5 hneb hnew hu hcl hpr HE2 e1
        go_upto_region 14 with (refine wpList_store_any infoMs (by rfl) (by rfl) _ _ (by rfl) G (j * 13) #[.int .i64 k, .int .i64 o, .int .i64 lf, .int .i64 i, .int .i64 (j : Int), .int .i64 (n : Int), .int .i64 g, .bool s, .int .i64 st, .int .i64 rs, .int .i64 rr, .int .i64 sq, .slice a1 c1.length k1] (by rfl) (by rfl) hth rfl rfl ?_)
        clear m0 m1 m2 m3 m4 m5 m6 m7 m8 m9 m10 m11 m12 hth
        go_wp2_with (fail)
        go_roundw
        case rel => exact ⟨j + 1, (j : Int), _, _, _, by go_num, hjn, rfl, hB6, hst _ rfl, hM6⟩
        case measure => simp [intOf]; go_light; omega
    · have ej : j = n := by go_light; omega
      subst ej
      go_wp2_with (fail)
      go_ret2
      exact ⟨G, V, Z, rfl, hPa, HGG.out.1, hMr⟩
end Go.Proofs.Ytifogbhlphofjaa
