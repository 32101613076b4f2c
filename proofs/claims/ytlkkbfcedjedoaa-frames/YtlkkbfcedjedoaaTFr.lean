/- TwinFrames: Pack and Open answer as the chapter says, of all frames and bytes; what is handed in stays, what is answered is memory of its own. No conditions. -/
import Derived.Test.YtlkkbfcedjedoaaTDb
import Derived.Deep.Light
import Derived.Deep.DeepCutAuto
import Derived.Deep.RegionLaw
namespace Go.Proofs.Ytlkkbfcedjedoaa
open Go.RowKit
theorem Own.put {w : World} {b n cap j : Nat} {l : List Int} (h : Own w (.slice (some ⟨b, 0, none⟩) n cap) l) (hl : l.length = n) (d : Int) : Own (w.setCell ⟨b, j, none⟩ (.int .u8 d)) (.slice (some ⟨b, 0, none⟩) n cap) (l.set j d) := by
  unfold Own at h ⊢
  have hset : U (l.set j d) = (U l).set j (.int .u8 d) := by simp [U, List.map_set]
  rw [List.length_set, hset]
  rw [hl] at h ⊢
  exact (World.ownsRow.stored h j _).1
theorem opB_mem {b : List Int} : ∀ c ∈ opB b, c ∈ b := by
  intro c hc
  unfold opB at hc
  split at hc
  · exact openD_mem b c (rdr_mem 3 _ c (obody_mem c hc))
  · simp at hc
theorem opB_len {b : List Int} : (opB b).length ≤ 512 := by
  unfold opB
  split
  · rename_i h
    exact (okF_parts (opE_parts h).2.2.2).2.2.2
  · simp
/-- What stays while frames are looked at. -/
structure Fv (w0 w : World) (F0 I0 : Nat) (s l n : Int) (bv cv v x y : Value) (B b P : List Int) : Prop where
  m : Mod (fun _ => False) w0 w
  f0 : Bk w F0 24 #[.int .i64 s, .int .i64 l, .int .i64 n, bv]
  i0 : Bk w I0 24 #[.int .i64 s, .int .i64 l, .int .i64 n, cv]
  sB : Sl w bv B
  sc : Sl w cv B
  sb : Sl w v b
  ox : Own w x P
  oy : Own w y P
theorem Fv.mod {S : Nat → Prop} {w0 w w' : World} {F0 I0 : Nat} {s l n : Int} {bv cv v x y : Value} {B b P : List Int} (h : Fv w0 w F0 I0 s l n bv cv v x y B b P) (hm : Mod S w w') (hS : ∀ i, S i → w.heap.size ≤ i) : Fv w0 w' F0 I0 s l n bv cv v x y B b P :=
  ⟨h.m.andX hm (fun i hi => Nat.le_trans h.m.size (hS i hi)), h.f0.mod hm (fun e => by have := hS _ e; have := h.f0.lt; omega), h.i0.mod hm (fun e => by have := hS _ e; have := h.i0.lt; omega),
    h.sB.mod2 hm (fun hne g hg e => by have := hS _ e; have := h.sB.lt hne g hg; omega), h.sc.mod2 hm (fun hne g hg e => by have := hS _ e; have := h.sc.lt hne g hg; omega), h.sb.mod2 hm (fun hne g hg e => by have := hS _ e; have := h.sb.lt hne g hg; omega),
    h.ox.mod hm (fun g hg e => by have := hS _ e; have := h.ox.lt g hg; omega), h.oy.mod hm (fun g hg e => by have := hS _ e; have := h.oy.lt g hg; omega)⟩
set_option maxRecDepth 100000 in
set_option maxHeartbeats 8000000 in
theorem frames_walk (s l n : Int) (bv : Value) (B : List Int) (v : Value) (b : List Int) (w : World) (hB : Sl w bv B) (hb : Sl w v b) (hLB : B.length ≤ 140737488351232) (hl : b.length ≤ 140737488351232) :
    Calls Try.prog 3 #[.agg #[.int .i64 s, .int .i64 l, .int .i64 n, bv], v] w fun e w' => e = .returned (.bool true) ∧ Mod (fun _ => False) w w' := by
  obtain ⟨ao, cap, rfl, _⟩ := hB.form
  obtain ⟨ao1, cap1, rfl, _⟩ := hb.form
  have hM0 := (Mod.refl (fun _ => False) w).alloc (.cells #[.int .i64 s, .int .i64 l, .int .i64 n, .slice ao B.length cap] 24)
  have hF0 := Bk.new w #[.int .i64 s, .int .i64 l, .int .i64 n, .slice ao B.length cap] 24
  have hrB := hB.rng
  have hrb := hb.rng
  have HC : Hid (∀ W, Mod (fun _ => False) w W → Calls Try.prog 10 #[.slice ao B.length cap] W fun e w' => ∃ v', e = .returned v' ∧ Own w' v' B ∧ Mod (fun _ => False) W w' ∧ (∀ g, v'.ownBlock = some g → W.heap.size ≤ g)) := fun W hW => copy_any (.slice ao B.length cap) B W (hB.mod hW (fun _ _ h => h)) (by omega)
  have a0 : (w.alloc (.cells #[.int .i64 s, .int .i64 l, .int .i64 n, .slice ao B.length cap] 24)).cell? ⟨w.heap.size, 0, none⟩ = some (.int .i64 s) := hF0.cellv (j := 0) rfl
  have a1 : (w.alloc (.cells #[.int .i64 s, .int .i64 l, .int .i64 n, .slice ao B.length cap] 24)).cell? ⟨w.heap.size, 1, none⟩ = some (.int .i64 l) := hF0.cellv (j := 1) rfl
  have a2 : (w.alloc (.cells #[.int .i64 s, .int .i64 l, .int .i64 n, .slice ao B.length cap] 24)).cell? ⟨w.heap.size, 2, none⟩ = some (.int .i64 n) := hF0.cellv (j := 2) rfl
  have a3 : (w.alloc (.cells #[.int .i64 s, .int .i64 l, .int .i64 n, .slice ao B.length cap] 24)).cell? ⟨w.heap.size, 3, none⟩ = some (.slice ao B.length cap) := hF0.cellv (j := 3) rfl
  have hZ : Bk ((w.alloc (.cells #[.int .i64 s, .int .i64 l, .int .i64 n, .slice ao B.length cap] 24)).drew.alloc (.cells #[.int .i64 0, .int .i64 0, .int .i64 0, .slice none 0 0] 24)) (w.heap.size + 1) 24 #[.int .i64 0, .int .i64 0, .int .i64 0, .slice none 0 0] := by
    have := Bk.new (w.alloc (.cells #[.int .i64 s, .int .i64 l, .int .i64 n, .slice ao B.length cap] 24)).drew #[.int .i64 0, .int .i64 0, .int .i64 0, .slice none 0 0] 24
    rwa [show (w.alloc (.cells #[.int .i64 s, .int .i64 l, .int .i64 n, .slice ao B.length cap] 24)).drew.heap.size = w.heap.size + 1 by simp] at this
  have HZ : Hid (Bk ((w.alloc (.cells #[.int .i64 s, .int .i64 l, .int .i64 n, .slice ao B.length cap] 24)).drew.alloc (.cells #[.int .i64 0, .int .i64 0, .int .i64 0, .slice none 0 0] 24)) (w.heap.size + 1) 24 #[.int .i64 0, .int .i64 0, .int .i64 0, .slice none 0 0]) := hZ
  clear hZ
  go_enter Try.func3, Try.ntmps3
  go_upto_region 1 with fail
  go_cut [5] (fun s5 wx => ∃ (I0 : Nat) (aoc : Option Addr) (capc : Nat), s5 = .pointer (some ⟨I0, 0, none⟩) ∧ Mod (fun _ => False) w wx ∧ Bk wx w.heap.size 24 #[.int .i64 s, .int .i64 l, .int .i64 n, .slice ao B.length cap] ∧ Bk wx I0 24 #[.int .i64 s, .int .i64 l, .int .i64 n, .slice aoc B.length capc] ∧ Sl wx (.slice aoc B.length capc) B)
  case first =>
    have hdr := (Mod.refl (fun _ => False) (w.alloc (.cells #[.int .i64 s, .int .i64 l, .int .i64 n, .slice ao B.length cap] 24))).drew
    replace a0 := hdr.cell a0 (fun h => h)
    replace a1 := hdr.cell a1 (fun h => h)
    replace a2 := hdr.cell a2 (fun h => h)
    replace a3 := hdr.cell a3 (fun h => h)
    have hMd := hM0.drew
    go_region_held3 (fun y => y.cell? ⟨w.heap.size, 0, none⟩ = some (.int .i64 s) ∧ y.cell? ⟨w.heap.size, 1, none⟩ = some (.int .i64 l) ∧ y.cell? ⟨w.heap.size, 2, none⟩ = some (.int .i64 n) ∧ y.cell? ⟨w.heap.size, 3, none⟩ = some (.slice ao B.length cap)) (first | with_reducible exact ⟨a0, a1, a2, a3⟩ | go_keep)
      ((go_at_call 10; refine (HC.out _ (by first | exact hMd | exact hMd.alloc _)).mono ?_; rintro e w1 ⟨cv, rfl, ho1, hm1, hg1⟩; obtain ⟨aoc, capc, rfl⟩ := ho1.shape; first | (replace a0 := hm1.cell a0 (fun h => h); replace a1 := hm1.cell a1 (fun h => h); replace a2 := hm1.cell a2 (fun h => h); replace a3 := hm1.cell a3 (fun h => h)) | (have hma := hdr.alloc (.cells #[.int .i64 0, .int .i64 0, .int .i64 0, .slice none 0 0] 24); have hFw := hF0.mod (hma.and hm1) (fun h => h); clear a0 a1 a2 a3; have a0 := hFw.cellv (j := 0) (v := .int .i64 s) rfl; have a1 := hFw.cellv (j := 1) (v := .int .i64 l) rfl; have a2 := hFw.cellv (j := 2) (v := .int .i64 n) rfl; have a3 := hFw.cellv (j := 3) (v := .slice ao B.length cap) rfl; have hZ1 := HZ.out.mod hm1 (fun h => h); have z0 := hZ1.cellv (j := 0) (v := .int .i64 0) rfl; have z1 := hZ1.cellv (j := 1) (v := .int .i64 0) rfl; have z2 := hZ1.cellv (j := 2) (v := .int .i64 0) rfl; have z3 := hZ1.cellv (j := 3) (v := .slice none 0 0) rfl; have y0 := hZ1.frz 0; have y1 := hZ1.frz 1; have y2 := hZ1.frz 2; have y3 := hZ1.frz 3)))
    · have hM1 := hMd.and hm1
      have hal := (Mod.refl (fun _ => False) w1).alloc (.cells #[.int .i64 s, .int .i64 l, .int .i64 n, .slice aoc B.length capc] 24)
      have hFw := (hF0.mod (hdr.and hm1) (fun h => h)).mod hal (fun h => h)
      go_wp2_with (fail)
      go_meet
      exact ⟨w1.heap.size, aoc, capc, rfl, hM1.and hal, hFw, Bk.new w1 _ _, (ho1.mod hal (fun _ _ h => h)).sl hrB⟩
    · have hM1 := (hMd.alloc (.cells #[.int .i64 0, .int .i64 0, .int .i64 0, .slice none 0 0] 24)).and hm1
      have hSt := ((((Mod.refl (fun i => i = w.heap.size + 1) w1).setCell ⟨w.heap.size + 1, 0, none⟩ (.int .i64 s) (.inl rfl)).setCell ⟨w.heap.size + 1, 1, none⟩ (.int .i64 l) (.inl rfl)).setCell ⟨w.heap.size + 1, 2, none⟩ (.int .i64 n) (.inl rfl)).setCell ⟨w.heap.size + 1, 3, none⟩ (.slice aoc B.length capc) (.inl rfl)
      have hI := (((hZ1.set 0 (.int .i64 s)).set 1 (.int .i64 l)).set 2 (.int .i64 n)).set 3 (.slice aoc B.length capc)
      have hFs := hFw.mod hSt (show ¬ w.heap.size = w.heap.size + 1 by omega)
      have hcs := (ho1.mod hSt (fun g hg e => by have := hg1 g hg; simp at this; omega)).sl hrB
      have hMs := hM1.trans hSt (V := fun _ => False) (fun _ _ h => h) (fun i hi e => by omega)
      go_wp2_with (fail)
      go_meet
      exact ⟨w.heap.size + 1, aoc, capc, rfl, hMs, hFs, hI, hcs⟩
  case rest =>
    obtain ⟨I0, aoc, capc, rfl, hM1, hF1, hI1, hc1⟩ := hcut
    clear HC HZ a0 a1 a2 a3 hF0 hM0
    have b0 := hI1.cellv (j := 0) rfl
    have b1 := hI1.cellv (j := 1) rfl
    have b2 := hI1.cellv (j := 2) rfl
    have b3 := hI1.cellv (j := 3) rfl
    have HP1 := Pack_any s l n (.slice aoc B.length capc) B wc hc1
    have hPr := paD_rng (s := s) (l := l) (n := n) hrB
    have hPl : (paD s l n B).length ≤ 600 := by
      by_cases h : B.length ≤ 512
      · exact paD_len h
      · have : paE s l n B = 5 := by unfold paE; rw [if_pos (by omega)]
        rw [paD, this, if_neg (by decide)]; simp
    have HP2 : Hid (∀ W, Mod (fun _ => False) w W → Calls Try.prog 12 #[.agg #[.int .i64 s, .int .i64 l, .int .i64 n, .slice ao B.length cap]] W fun e w' => ∃ v', e = .returned (.tuple #[v', .int .i64 (paE s l n B)]) ∧ Own w' v' (paD s l n B) ∧ Mod (fun _ => False) W w' ∧ (∀ g, v'.ownBlock = some g → W.heap.size ≤ g)) := fun W hW => dPack_any s l n _ B W (hB.mod hW (fun _ _ h => h))
    generalize paD s l n B = P at *
    generalize paE s l n B = E at *
    go_wp2_with (fail)
    refine HP1.mono ?_
    rintro e w2 ⟨x, rfl, hx2, hm2, hgx⟩
    have hM2 := hM1.and hm2
    have hF2 := hF1.mod hm2 (fun h => h)
    have hI2 := hI1.mod hm2 (fun h => h)
    have hc2 := hc1.mod hm2 (fun _ _ h => h)
    have HXN : Hid (∀ g, x.ownBlock = some g → w.heap.size < g ∧ I0 < g ∧ (B ≠ [] → (Value.slice ao B.length cap).ownBlock ≠ some g) ∧ (B ≠ [] → (Value.slice aoc B.length capc).ownBlock ≠ some g)) := fun g hg => by
      have h0 := hgx g hg
      exact ⟨by have := hF1.lt; omega, by have := hI1.lt; omega, fun hne e => by have := hB.lt hne g e; have := hM1.size; omega, fun hne e => by have := hc1.lt hne g e; omega⟩
    clear b0 b1 b2 b3 HP1 hM1 hF1 hI1 hc1 hm2 hgx
    have b0 := hF2.cellv (j := 0) rfl
    have b1 := hF2.cellv (j := 1) rfl
    have b2 := hF2.cellv (j := 2) rfl
    have b3 := hF2.cellv (j := 3) rfl
    go_wp2_with (fail)
    refine (HP2.out _ hM2).mono ?_
    rintro e w3 ⟨y, rfl, hy3, hm3, hgy⟩
    have hM3 := hM2.and hm3
    have hFv : Fv w w3 w.heap.size I0 s l n (.slice ao B.length cap) (.slice aoc B.length capc) (.slice ao1 b.length cap1) x y B b P := ⟨hM3, hF2.mod hm3 (fun h => h), hI2.mod hm3 (fun h => h), hB.mod hM3 (fun _ _ h => h), hc2.mod hm3 (fun _ _ h => h), hb.mod hM3 (fun _ _ h => h), hx2.mod hm3 (fun _ _ h => h), hy3⟩
    have hyx : ∀ g, x.ownBlock = some g → y.ownBlock ≠ some g := fun g hg e => by have := hx2.lt g hg; have := hgy g e; omega
    clear b0 b1 b2 b3 HP2 hM2 hF2 hI2 hc2 hx2 hm3 hM3 hgy hy3
    have HE1 := EqBytes_any x y P P w3 (hFv.ox.sl hPr) (hFv.oy.sl hPr)
    rw [decide_eq_true rfl] at HE1
    go_wp2_with (fail)
    refine HE1.mono ?_
    rintro e w4 ⟨rfl, hm4⟩
    have hF4 := hFv.mod hm4 (fun _ h => h.elim)
    have HS1 := same_any s l n s l n _ _ B B w4 hF4.sc hF4.sB
    rw [decide_eq_true ⟨rfl, rfl, rfl, rfl⟩] at HS1
    have c0 := hF4.f0.cellv (j := 0) rfl
    have c1 := hF4.f0.cellv (j := 1) rfl
    have c2 := hF4.f0.cellv (j := 2) rfl
    have c3 := hF4.f0.cellv (j := 3) rfl
    have d0 := hF4.i0.cellv (j := 0) rfl
    have d1 := hF4.i0.cellv (j := 1) rfl
    have d2 := hF4.i0.cellv (j := 2) rfl
    have d3 := hF4.i0.cellv (j := 3) rfl
    clear hFv HE1 hm4
    go_wp2_with (fail)
    refine HS1.mono ?_
    rintro e w5 ⟨rfl, hm5⟩
    have hF5 := hF4.mod hm5 (fun _ h => h.elim)
    have hal5 := (Mod.refl (fun _ => False) w5).alloc (.cells #[.slice ao1 b.length cap1, y] 22)
    have hF6 := hF5.mod hal5 (fun _ h => h.elim)
    have hQ := Bk.new w5 #[.slice ao1 b.length cap1, y] 22
    obtain ⟨Qb, hQb⟩ : ∃ Qb, Qb = w5.heap.size := ⟨_, rfl⟩
    rw [← hQb] at hQ
    obtain ⟨aoy, capy, hys⟩ := hF5.oy.shape
    subst hys
    clear c0 c1 c2 c3 d0 d1 d2 d3 hF4 HS1 hm5
    go_wp2_with (fail)
    have HQb : Hid (Qb = w5.heap.size) := hQb
    rw [← hQb]
    clear hQb hF5 hal5
    go_loopw [58] (fun i wr => ∃ k : Nat, i = .int .i64 (k : Int) ∧ k ≤ 2 ∧ Fv w wr w.heap.size I0 s l n (.slice ao B.length cap) (.slice aoc B.length capc) (.slice ao1 b.length cap1) x (.slice aoy P.length capy) B b P ∧ Bk wr Qb 22 #[.slice ao1 b.length cap1, .slice aoy P.length capy]) (fun i _ => 2 - (intOf i).toNat)
    case atStart => exact ⟨0, rfl, by omega, hF6, hQ⟩
    case round =>
      obtain ⟨k, rfl, hk, hF, hQr⟩ := hrel
      clear hF6 hQ
      obtain ⟨wO, rfl⟩ : ∃ wO, wO = wr := ⟨_, rfl⟩
      by_cases hk2 : k < 2
      · have hki : (k : Int) < 2 := by omega
        rcases (by omega : k = 0 ∨ k = 1) with rfl | rfl
        · have cc : wO.cell? ⟨Qb, 0, none⟩ = some (.slice ao1 b.length cap1) := hQr.cellv (j := 0) rfl
          have hcS : Sl wO (.slice ao1 b.length cap1) (b) := hF.sb
          have HCp := copy_any (.slice ao1 b.length cap1) (b) wO hcS (by omega)
          go_wp2_with (fail)
          refine HCp.mono ?_
          rintro e w7 ⟨d, rfl, hd7, hm7, hgd⟩
          have HO1 := tOpen_any d (b) w7 (hd7.sl (hrb)) (by omega)
          have hcS7 := hcS.mod hm7 (fun _ _ h => h)
          clear HCp cc
          go_wp2_with (fail)
          refine HO1.mono ?_
          rintro e w8 ⟨bv1, rfl, hm8, ho8, hg8⟩
          have HO2 : Hid (∀ W, Sl W (.slice ao1 b.length cap1) (b) → Calls Try.prog 16 #[.slice ao1 b.length cap1] W (OpPost (b) W)) := fun W hW => dOpen_any (.slice ao1 b.length cap1) (b) W hW (by omega)
          obtain ⟨ap, cp, rfl⟩ := ho8.shape
          have hOr : ∀ c ∈ opB (b), 0 ≤ c ∧ c ≤ 255 := fun c hc => (hrb) c (opB_mem c hc)
          have hOBl := opB_len (b := b)
          have hO2 := HO2.out
          unfold OpPost at hO2
          clear HO1 HO2
          generalize opN (b) 0 = n0 at *
          generalize opN (b) 1 = n1 at *
          generalize opN (b) 2 = n2 at *
          generalize opE (b) = EE at *
          generalize opB (b) = OB at *
          have hal8 := (Mod.refl (fun _ => False) w8).alloc (.cells #[.int .i64 n0, .int .i64 n1, .int .i64 n2, .slice ap OB.length cp] 24)
          have hG8 := Bk.new w8 #[.int .i64 n0, .int .i64 n1, .int .i64 n2, .slice ap OB.length cp] 24
          have ho8' := ho8.mod hal8 (fun _ _ h => h)
          have hma8 := (hm7.and hm8).and hal8
          have hd8 := (hd7.mod hm8 (fun _ _ h => h)).mod hal8 (fun _ _ h => h)
          have HO3 := hO2 _ ((hcS7.mod hm8 (fun _ _ h => h)).mod hal8 (fun _ _ h => h))
          have hd8l := hd7.lt
          clear hO2 hd7 ho8 hcS7
          go_wp2_with (fail)
          refine HO3.mono ?_
          rintro e w9 ⟨bv2, rfl, hm9, ho9, hg9⟩
          obtain ⟨aq, cq, rfl⟩ := ho9.shape
          have hal9 := (Mod.refl (fun _ => False) w9).alloc (.cells #[.int .i64 n0, .int .i64 n1, .int .i64 n2, .slice aq OB.length cq] 24)
          have hma9 := (hm9).and hal9
          have hG9 := hG8.mod hma9 (fun h => h)
          have hH9 := Bk.new w9 #[.int .i64 n0, .int .i64 n1, .int .i64 n2, .slice aq OB.length cq] 24
          have hp9 := ho8'.mod hma9 (fun _ _ h => h)
          have hq9 := ho9.mod hal9 (fun _ _ h => h)
          have hd9 := hd8.mod hma9 (fun _ _ h => h)
          have hmr9 := hma8.and hma9
          have HS2 := same_any n0 n1 n2 n0 n1 n2 _ _ OB OB _ (hp9.sl hOr) (hq9.sl hOr)
          rw [decide_eq_true ⟨rfl, rfl, rfl, rfl⟩] at HS2
          have e0 := hG9.cellv (j := 0) rfl
          have e1 := hG9.cellv (j := 1) rfl
          have e2 := hG9.cellv (j := 2) rfl
          have e3 := hG9.cellv (j := 3) rfl
          have f0 := hH9.cellv (j := 0) rfl
          have f1 := hH9.cellv (j := 1) rfl
          have f2 := hH9.cellv (j := 2) rfl
          have f3 := hH9.cellv (j := 3) rfl
          clear HO3 hG8 ho8' hd8 ho9 hm9 hal9 hal8 hma8 hma9
          go_wp2_with (fail)
          refine HS2.mono ?_
          rintro e wA ⟨rfl, hmA⟩
          have hmrA := hmr9.and hmA
          have HE2 := EqBytes_any (.slice ao1 b.length cap1) d (b) (b) wA (hcS.mod hmrA (fun _ _ h => h)) ((hd9.mod hmA (fun _ _ h => h)).sl (hrb))
          rw [decide_eq_true rfl] at HE2
          have hGA := hG9.mod hmA (fun h => h)
          have hpA := hp9.mod hmA (fun _ _ h => h)
          have hdA := hd9.mod hmA (fun _ _ h => h)
          clear HS2 e0 e1 e2 e3 f0 f1 f2 f3 hmr9 hG9 hp9 hd9 hH9 hq9 hmA
          go_wp2_with (fail)
          refine HE2.mono ?_
          rintro e wB ⟨rfl, hmB⟩
          have hmrB := hmrA.and hmB
          have hGB := hGA.mod hmB (fun h => h)
          have hpB := hpA.mod hmB (fun _ _ h => h)
          have hdB := hdA.mod hmB (fun _ _ h => h)
          clear HE2 hmrA hGA hpA hdA hmB
          go_wp2_with (fail)
          obtain ⟨G1, hG1⟩ : ∃ G1, G1 = w8.heap.size := ⟨_, rfl⟩
          rw [← hG1] at hGB ⊢
          have HG1 : Hid (G1 = w8.heap.size) := hG1
          clear hG1
          go_loopw [17] (fun i wr => ∃ (j : Nat) (l' : List Int), i = .int .i64 (j : Int) ∧ j ≤ OB.length ∧ Hid (l'.length = OB.length) ∧ Hid (∀ c ∈ l', 0 ≤ c ∧ c ≤ 255) ∧ Own wr (.slice ap OB.length cp) l' ∧ Bk wr G1 24 #[.int .i64 n0, .int .i64 n1, .int .i64 n2, .slice ap OB.length cp] ∧ Mod (fun g => (Value.slice ap OB.length cp).ownBlock = some g) wB wr) (fun i _ => OB.length - (intOf i).toNat)
          case atStart => exact ⟨0, OB, rfl, by omega, rfl, hOr, hpB, hGB, Mod.refl _ _⟩
          case round =>
            obtain ⟨j, l', rfl, hj, hll, hrr, hpr, hGr, hmL⟩ := hrel
            clear hpB hGB
            have g3 : wr.cell? ⟨G1, 3, none⟩ = some (.slice ap OB.length cp) := hGr.cellv (j := 3) rfl
            by_cases hjl : j < OB.length
            · have hji : (j : Int) < (OB.length : Int) := by go_light; omega
              have HJL : Hid (j < OB.length) := hjl
              have hj512 : (j : Int) < 512 := by go_light; omega
              have hl0 : 0 < l'.length := by have := hll.out; go_light; omega
              obtain ⟨gp, capp, hsh, _⟩ := hpr.form hl0
              simp only [Value.slice.injEq] at hsh
              obtain rfl := hsh.1
              clear hsh
              have hjl' : j < l'.length := by have := hll.out; go_light; omega
              have ck : wr.cell? ⟨gp, j, none⟩ = some (.int .u8 (l'.getD j 0)) := by
                have h1 := hpr
                unfold Own at h1
                rw [hll.out] at h1
                rw [World.ownsRow.cellAt h1 j (by go_light; omega)]
                exact U_get l' j hjl'
              obtain ⟨cur, hkd⟩ := hpr.kind (g := gp) rfl
              have fz : wr.frozen? ⟨gp, j, none⟩ = false := by simp [World.frozen?, hkd]
              obtain ⟨c', hc', hrc⟩ : ∃ c', IntKind.u8.wrap (l'.getD j 0 + 1) = c' ∧ (0 ≤ c' ∧ c' ≤ 255) := ⟨_, rfl, by rw [IntKind.wrap_u8']; go_light; omega⟩
              have hput := (hpr.mod ((Mod.refl (fun _ => False) wr).drew) (fun _ _ h => h)).put (j := j) hll.out c'
              have hGs := (hGr.mod ((Mod.refl (fun _ => False) wr).drew) (fun h => h)).mod ((Mod.refl (fun i => i = gp) wr.drew).setCell ⟨gp, j, none⟩ (.int .u8 c') (.inl rfl)) (fun e => by rw [e] at hGr; have := hGr.at'; rw [hkd] at this; simp at this)
              have hmL2 := hmL.drew.setCell ⟨gp, j, none⟩ (.int .u8 c') (.inl rfl)
              have hr2 : ∀ c ∈ l'.set j c', 0 ≤ c ∧ c ≤ 255 := fun c hc => by
                rcases List.mem_or_eq_of_mem_set hc with h | rfl
                · exact hrr.out c h
                · exact hrc
              have hl2 : (l'.set j c').length = OB.length := by rw [List.length_set]; exact hll.out
              generalize l'.getD j 0 = c at *
              clear hkd hmL hGr hpr hjl'
              go_wp2_with (fail)
              go_region
              go_wp2
              go_roundw
              case rel => exact ⟨j + 1, l'.set j c', by go_num, by have := HJL.out; go_light; omega, hl2, hr2, hput, hGs, hmL2⟩
              case measure => simp [intOf]; have := HJL.out; go_light; omega
            · have hji : ¬ (j : Int) < (OB.length : Int) := by go_light; omega
              have hS : ∀ g, (Value.slice ap OB.length cp).ownBlock = some g → wO.heap.size ≤ g := fun g hg => Nat.le_trans hm7.size (hg8 g hg)
              have hmW : Mod (fun g => (Value.slice ap OB.length cp).ownBlock = some g) wO wr := hmrB.trans hmL (fun _ _ h => h.elim) (fun _ _ h => h)
              have hFW := hF.mod hmW hS
              have hQW := hQr.mod hmW (fun e => by have := hS _ e; have := hQr.lt; omega)
              have hdW := hdB.mod hmL (fun g hg e => by have := hd8l g hg; have := hg8 g e; omega)
              have HE3 := EqBytes_any (.slice ao1 b.length cap1) d (b) (b) wr (hFW.sb) (hdW.sl (hrb))
              rw [decide_eq_true rfl] at HE3
              clear hpr hGr hmL hmW hQr hF
              go_wp2_with (fail)
              refine HE3.mono ?_
              rintro e wC ⟨rfl, hmC⟩
              have hFC := hFW.mod hmC (fun _ h => h.elim)
              have hQC := hQW.mod hmC (fun h => h)
              go_wp2
              go_roundw
              case rel => exact ⟨0 + 1, by first | rfl | go_num, by omega, hFC, hQC⟩
              case measure => simp [intOf]
        · have cc : wO.cell? ⟨Qb, 1, none⟩ = some (.slice aoy P.length capy) := hQr.cellv (j := 1) rfl
          have hcS : Sl wO (.slice aoy P.length capy) (P) := hF.oy.sl hPr
          have HCp := copy_any (.slice aoy P.length capy) (P) wO hcS (by omega)
          go_wp2_with (fail)
          refine HCp.mono ?_
          rintro e w7 ⟨d, rfl, hd7, hm7, hgd⟩
          have HO1 := tOpen_any d (P) w7 (hd7.sl (hPr)) (by omega)
          have hcS7 := hcS.mod hm7 (fun _ _ h => h)
          clear HCp cc
          go_wp2_with (fail)
          refine HO1.mono ?_
          rintro e w8 ⟨bv1, rfl, hm8, ho8, hg8⟩
          have HO2 : Hid (∀ W, Sl W (.slice aoy P.length capy) (P) → Calls Try.prog 16 #[.slice aoy P.length capy] W (OpPost (P) W)) := fun W hW => dOpen_any (.slice aoy P.length capy) (P) W hW (by omega)
          obtain ⟨ap, cp, rfl⟩ := ho8.shape
          have hOr : ∀ c ∈ opB (P), 0 ≤ c ∧ c ≤ 255 := fun c hc => (hPr) c (opB_mem c hc)
          have hOBl := opB_len (b := P)
          have hO2 := HO2.out
          unfold OpPost at hO2
          clear HO1 HO2
          generalize opN (P) 0 = n0 at *
          generalize opN (P) 1 = n1 at *
          generalize opN (P) 2 = n2 at *
          generalize opE (P) = EE at *
          generalize opB (P) = OB at *
          have hal8 := (Mod.refl (fun _ => False) w8).alloc (.cells #[.int .i64 n0, .int .i64 n1, .int .i64 n2, .slice ap OB.length cp] 24)
          have hG8 := Bk.new w8 #[.int .i64 n0, .int .i64 n1, .int .i64 n2, .slice ap OB.length cp] 24
          have ho8' := ho8.mod hal8 (fun _ _ h => h)
          have hma8 := (hm7.and hm8).and hal8
          have hd8 := (hd7.mod hm8 (fun _ _ h => h)).mod hal8 (fun _ _ h => h)
          have HO3 := hO2 _ ((hcS7.mod hm8 (fun _ _ h => h)).mod hal8 (fun _ _ h => h))
          have hd8l := hd7.lt
          clear hO2 hd7 ho8 hcS7
          go_wp2_with (fail)
          refine HO3.mono ?_
          rintro e w9 ⟨bv2, rfl, hm9, ho9, hg9⟩
          obtain ⟨aq, cq, rfl⟩ := ho9.shape
          have hal9 := (Mod.refl (fun _ => False) w9).alloc (.cells #[.int .i64 n0, .int .i64 n1, .int .i64 n2, .slice aq OB.length cq] 24)
          have hma9 := (hm9).and hal9
          have hG9 := hG8.mod hma9 (fun h => h)
          have hH9 := Bk.new w9 #[.int .i64 n0, .int .i64 n1, .int .i64 n2, .slice aq OB.length cq] 24
          have hp9 := ho8'.mod hma9 (fun _ _ h => h)
          have hq9 := ho9.mod hal9 (fun _ _ h => h)
          have hd9 := hd8.mod hma9 (fun _ _ h => h)
          have hmr9 := hma8.and hma9
          have HS2 := same_any n0 n1 n2 n0 n1 n2 _ _ OB OB _ (hp9.sl hOr) (hq9.sl hOr)
          rw [decide_eq_true ⟨rfl, rfl, rfl, rfl⟩] at HS2
          have e0 := hG9.cellv (j := 0) rfl
          have e1 := hG9.cellv (j := 1) rfl
          have e2 := hG9.cellv (j := 2) rfl
          have e3 := hG9.cellv (j := 3) rfl
          have f0 := hH9.cellv (j := 0) rfl
          have f1 := hH9.cellv (j := 1) rfl
          have f2 := hH9.cellv (j := 2) rfl
          have f3 := hH9.cellv (j := 3) rfl
          clear HO3 hG8 ho8' hd8 ho9 hm9 hal9 hal8 hma8 hma9
          go_wp2_with (fail)
          refine HS2.mono ?_
          rintro e wA ⟨rfl, hmA⟩
          have hmrA := hmr9.and hmA
          have HE2 := EqBytes_any (.slice aoy P.length capy) d (P) (P) wA (hcS.mod hmrA (fun _ _ h => h)) ((hd9.mod hmA (fun _ _ h => h)).sl (hPr))
          rw [decide_eq_true rfl] at HE2
          have hGA := hG9.mod hmA (fun h => h)
          have hpA := hp9.mod hmA (fun _ _ h => h)
          have hdA := hd9.mod hmA (fun _ _ h => h)
          clear HS2 e0 e1 e2 e3 f0 f1 f2 f3 hmr9 hG9 hp9 hd9 hH9 hq9 hmA
          go_wp2_with (fail)
          refine HE2.mono ?_
          rintro e wB ⟨rfl, hmB⟩
          have hmrB := hmrA.and hmB
          have hGB := hGA.mod hmB (fun h => h)
          have hpB := hpA.mod hmB (fun _ _ h => h)
          have hdB := hdA.mod hmB (fun _ _ h => h)
          clear HE2 hmrA hGA hpA hdA hmB
          go_wp2_with (fail)
          obtain ⟨G1, hG1⟩ : ∃ G1, G1 = w8.heap.size := ⟨_, rfl⟩
          rw [← hG1] at hGB ⊢
          have HG1 : Hid (G1 = w8.heap.size) := hG1
          clear hG1
          go_loopw [17] (fun i wr => ∃ (j : Nat) (l' : List Int), i = .int .i64 (j : Int) ∧ j ≤ OB.length ∧ Hid (l'.length = OB.length) ∧ Hid (∀ c ∈ l', 0 ≤ c ∧ c ≤ 255) ∧ Own wr (.slice ap OB.length cp) l' ∧ Bk wr G1 24 #[.int .i64 n0, .int .i64 n1, .int .i64 n2, .slice ap OB.length cp] ∧ Mod (fun g => (Value.slice ap OB.length cp).ownBlock = some g) wB wr) (fun i _ => OB.length - (intOf i).toNat)
          case atStart => exact ⟨0, OB, rfl, by omega, rfl, hOr, hpB, hGB, Mod.refl _ _⟩
          case round =>
            obtain ⟨j, l', rfl, hj, hll, hrr, hpr, hGr, hmL⟩ := hrel
            clear hpB hGB
            have g3 : wr.cell? ⟨G1, 3, none⟩ = some (.slice ap OB.length cp) := hGr.cellv (j := 3) rfl
            by_cases hjl : j < OB.length
            · have hji : (j : Int) < (OB.length : Int) := by go_light; omega
              have HJL : Hid (j < OB.length) := hjl
              have hj512 : (j : Int) < 512 := by go_light; omega
              have hl0 : 0 < l'.length := by have := hll.out; go_light; omega
              obtain ⟨gp, capp, hsh, _⟩ := hpr.form hl0
              simp only [Value.slice.injEq] at hsh
              obtain rfl := hsh.1
              clear hsh
              have hjl' : j < l'.length := by have := hll.out; go_light; omega
              have ck : wr.cell? ⟨gp, j, none⟩ = some (.int .u8 (l'.getD j 0)) := by
                have h1 := hpr
                unfold Own at h1
                rw [hll.out] at h1
                rw [World.ownsRow.cellAt h1 j (by go_light; omega)]
                exact U_get l' j hjl'
              obtain ⟨cur, hkd⟩ := hpr.kind (g := gp) rfl
              have fz : wr.frozen? ⟨gp, j, none⟩ = false := by simp [World.frozen?, hkd]
              obtain ⟨c', hc', hrc⟩ : ∃ c', IntKind.u8.wrap (l'.getD j 0 + 1) = c' ∧ (0 ≤ c' ∧ c' ≤ 255) := ⟨_, rfl, by rw [IntKind.wrap_u8']; go_light; omega⟩
              have hput := (hpr.mod ((Mod.refl (fun _ => False) wr).drew) (fun _ _ h => h)).put (j := j) hll.out c'
              have hGs := (hGr.mod ((Mod.refl (fun _ => False) wr).drew) (fun h => h)).mod ((Mod.refl (fun i => i = gp) wr.drew).setCell ⟨gp, j, none⟩ (.int .u8 c') (.inl rfl)) (fun e => by rw [e] at hGr; have := hGr.at'; rw [hkd] at this; simp at this)
              have hmL2 := hmL.drew.setCell ⟨gp, j, none⟩ (.int .u8 c') (.inl rfl)
              have hr2 : ∀ c ∈ l'.set j c', 0 ≤ c ∧ c ≤ 255 := fun c hc => by
                rcases List.mem_or_eq_of_mem_set hc with h | rfl
                · exact hrr.out c h
                · exact hrc
              have hl2 : (l'.set j c').length = OB.length := by rw [List.length_set]; exact hll.out
              generalize l'.getD j 0 = c at *
              clear hkd hmL hGr hpr hjl'
              go_wp2_with (fail)
              go_region
              go_wp2
              go_roundw
              case rel => exact ⟨j + 1, l'.set j c', by go_num, by have := HJL.out; go_light; omega, hl2, hr2, hput, hGs, hmL2⟩
              case measure => simp [intOf]; have := HJL.out; go_light; omega
            · have hji : ¬ (j : Int) < (OB.length : Int) := by go_light; omega
              have hS : ∀ g, (Value.slice ap OB.length cp).ownBlock = some g → wO.heap.size ≤ g := fun g hg => Nat.le_trans hm7.size (hg8 g hg)
              have hmW : Mod (fun g => (Value.slice ap OB.length cp).ownBlock = some g) wO wr := hmrB.trans hmL (fun _ _ h => h.elim) (fun _ _ h => h)
              have hFW := hF.mod hmW hS
              have hQW := hQr.mod hmW (fun e => by have := hS _ e; have := hQr.lt; omega)
              have hdW := hdB.mod hmL (fun g hg e => by have := hd8l g hg; have := hg8 g e; omega)
              have HE3 := EqBytes_any (.slice aoy P.length capy) d (P) (P) wr (hFW.oy.sl hPr) (hdW.sl (hPr))
              rw [decide_eq_true rfl] at HE3
              clear hpr hGr hmL hmW hQr hF
              go_wp2_with (fail)
              refine HE3.mono ?_
              rintro e wC ⟨rfl, hmC⟩
              have hFC := hFW.mod hmC (fun _ h => h.elim)
              have hQC := hQW.mod hmC (fun h => h)
              go_wp2
              go_roundw
              case rel => exact ⟨1 + 1, by first | rfl | go_num, by omega, hFC, hQC⟩
              case measure => simp [intOf]
      · obtain rfl : k = 2 := by omega
        obtain ⟨aox, capx, rfl⟩ := hF.ox.shape
        go_wp2_with (fail)
        go_loopw [18] (fun i wr => ∃ (j : Nat) (l' : List Int), i = .int .i64 (j : Int) ∧ j ≤ P.length ∧ Hid (l'.length = P.length) ∧ Hid (∀ c ∈ l', 0 ≤ c ∧ c ≤ 255) ∧ Own wr (.slice aox P.length capx) l' ∧ Mod (fun g => (Value.slice aox P.length capx).ownBlock = some g) wO wr) (fun i _ => P.length - (intOf i).toNat)
        case atStart => exact ⟨0, P, rfl, by omega, rfl, hPr, hF.ox, Mod.refl _ _⟩
        case round =>
          obtain ⟨j, l', rfl, hj, hll, hrr, hpr, hmL⟩ := hrel
          by_cases hjl : j < P.length
          · have hji : (j : Int) < (P.length : Int) := by go_light; omega
            have hl0 : 0 < l'.length := by have := hll.out; go_light; omega
            obtain ⟨gp, capp, hsh, _⟩ := hpr.form hl0
            simp only [Value.slice.injEq] at hsh
            obtain rfl := hsh.1
            clear hsh
            have hjl' : j < l'.length := by have := hll.out; go_light; omega
            have ck : wr.cell? ⟨gp, j, none⟩ = some (.int .u8 (l'.getD j 0)) := by
              have h1 := hpr
              unfold Own at h1
              rw [hll.out] at h1
              rw [World.ownsRow.cellAt h1 j (by go_light; omega)]
              exact U_get l' j hjl'
            obtain ⟨cur, hkd⟩ := hpr.kind (g := gp) rfl
            have fz : wr.frozen? ⟨gp, j, none⟩ = false := by simp [World.frozen?, hkd]
            obtain ⟨c', hc', hrc⟩ : ∃ c', IntKind.u8.wrap (l'.getD j 0 + 1) = c' ∧ (0 ≤ c' ∧ c' ≤ 255) := ⟨_, rfl, by rw [IntKind.wrap_u8']; go_light; omega⟩
            have hput := hpr.put (j := j) hll.out c'
            have hmL2 := hmL.setCell ⟨gp, j, none⟩ (.int .u8 c') (.inl rfl)
            have hr2 : ∀ c ∈ l'.set j c', 0 ≤ c ∧ c ≤ 255 := fun c hc => by
              rcases List.mem_or_eq_of_mem_set hc with h | rfl
              · exact hrr.out c h
              · exact hrc
            have hl2 : (l'.set j c').length = P.length := by rw [List.length_set]; exact hll.out
            generalize l'.getD j 0 = c at *
            clear hkd hmL hpr hjl'
            go_wp2
            go_roundw
            case rel => exact ⟨j + 1, l'.set j c', by go_num, by go_light; omega, hl2, hr2, hput, hmL2⟩
            case measure => simp [intOf]; go_light; omega
          · have hji : ¬ (j : Int) < (P.length : Int) := by go_light; omega
            have hX := HXN.out
            have hf0 := hF.f0.mod hmL (fun e => by have := hX _ e; omega)
            have hi0 := hF.i0.mod hmL (fun e => by have := hX _ e; omega)
            have hsB := hF.sB.mod2 hmL (fun hne g hg e => (hX g e).2.2.1 hne hg)
            have hsc := hF.sc.mod2 hmL (fun hne g hg e => (hX g e).2.2.2 hne hg)
            have hMz : Mod (fun _ => False) w wr := hF.m.trans hmL (fun _ _ h => h) (fun i hi e => by have := hX _ e; omega)
            have HS3 := same_any s l n s l n _ _ B B wr hsc hsB
            rw [decide_eq_true ⟨rfl, rfl, rfl, rfl⟩] at HS3
            have c0 := hf0.cellv (j := 0) rfl
            have c1 := hf0.cellv (j := 1) rfl
            have c2 := hf0.cellv (j := 2) rfl
            have c3 := hf0.cellv (j := 3) rfl
            have d0 := hi0.cellv (j := 0) rfl
            have d1 := hi0.cellv (j := 1) rfl
            have d2 := hi0.cellv (j := 2) rfl
            have d3 := hi0.cellv (j := 3) rfl
            clear hF hX hpr hmL
            go_wp2_with (fail)
            refine HS3.mono ?_
            rintro e wD ⟨rfl, hmD⟩
            go_wp2_with (fail)
            refine (works_any _).mono ?_
            rintro e wE ⟨rfl, hmE⟩
            go_wp2
            go_ret
            exact ⟨rfl, (hMz.and hmD).and hmE⟩
namespace twinFrames
open Go.ChangeShapes Go.WideShapes Go.ChangeAt Go.RowKit
set_option maxRecDepth 100000 in
theorem lifted (os : Os) (started : os.Started) (H : Type) (enc : TypeId × Value → H) :
    ReturnsInHanded {} Try.checked os 3 .any (Rows.twinFramesSpec.pre6 enc Try.prog Try.f3 Rows.twinFramesRow.domain false) (Rows.twinFramesSpec.post enc Try.prog Try.f3 false true false false) := by
  refine returnsInHanded_of_change_sized (C := Try.checked) own started (by kernel_rfl) Try.func3
    (ChangeSpec.witness6 (enc := enc) (C := Try.checked) false ⟨#[], #[.agg #[.int .i64 0, .int .i64 0, .int .i64 0, .slice none 0 0], .slice none 0 0], []⟩ 8 (by kernel_rfl) (by kernel_rfl) (by kernel_rfl) (by kernel_rfl)) ?_
  intro W base args ds gs before hval0 hW hcnd hsz0 _
  have hval : ∀ (j : Nat) t v, Try.f3.params[j]? = some t → args[j]? = some v → Value.okWide Try.prog W .any base t v := hval0
  have hsz : (DataW.weightsEach Try.prog (Try.f3.params.toList ++ Rows.twinFramesSpec.plain.varTypes Try.prog) (ds ++ gs)).all (· ≤ reachBytes) = true := hsz0
  have hW' := hW
  obtain ⟨p, q, hA0, hV, rfl, hfz, hnd⟩ := hW
  have hA : DataW.TrodAll enc Try.prog W 0 (fun _ => true) true Try.f3.params.toList args.toList ds p := hA0
  rw [Try.params3] at hA hval hsz
  obtain ⟨v0, vs0, d0, ds0, p0, q0, hargs, rfl, rfl, h0, r0⟩ := trodAll_cons hA
  obtain ⟨v1, vs1, d1, ds1, p1, q1, rfl, rfl, rfl, h1, r1⟩ := trodAll_cons r0
  obtain ⟨rfl, rfl, rfl⟩ := trodAll_nil r1
  obtain rfl : args = #[v0, v1] := by cases args; simp_all
  obtain ⟨rfl, rfl⟩ := trodVars_none hV
  have k0 := h0
  have lt0 : ∀ x ∈ p0, x.block < W.heap.size := by obtain ⟨m, hm⟩ := k0; exact DataW.trod_lt m _ _ _ hm
  obtain ⟨s0, l0, n0, bv0, B0, rfl, hB0, i00, i10, i20, hw0⟩ := open_frame (hval 0 24 v0 rfl rfl) h0
  have hL0 : B0.length ≤ 140737488351232 := hw0 _ (by
    rw [List.all_eq_true] at hsz ⊢
    intro x hx
    exact hsz x (DataW.weights_mem_each (t := 24) (j := 0) rfl rfl x hx))
  have k1 := h1
  have lt1 : ∀ x ∈ p1, x.block < W.heap.size := by obtain ⟨m, hm⟩ := k1; exact DataW.trod_lt m _ _ _ hm
  have hs1 := okWide_slice Try.underlying22 (hval 1 22 v1 rfl rfl)
  obtain ⟨B1, hB1, hL1⟩ : ∃ B, Sl W v1 B ∧ B.length ≤ 140737488351232 := by
    obtain ⟨ao, len, cap, rfl⟩ := hs1
    obtain ⟨fuel, hf⟩ := h1
    obtain ⟨B, hB, hx⟩ := sl_of_trod (c := .slice ao len cap) (by simpa [Value.cells] using hf)
    refine ⟨B, hB, ?_⟩
    simp only at hx
    rcases hx with ⟨rfl, rfl⟩ | ⟨e, s, rfl, hlen⟩
    · simp
    · have := sized_slice hsz (j := 1) (t := 22) (e := 5) rfl rfl Try.underlying22
      rw [bytes5] at this
      simp only [reachBytes] at this
      omega
  clear hA0 hval0
  refine (frames_walk s0 l0 n0 bv0 B0 v1 B1 W hB0 hB1 hL0 hL1).mono fun e W' ⟨he, hm⟩ => ?_
  subst he
  have bel : Below W.heap.size W W' := hm.below _ (Nat.le_refl _) (fun _ h => h.elim)
  exact ⟨_, rfl, _, _, _, [], _, [], hW', trodAll_mk1 (shut_bool Try.underlying4 _), (trodAll_cons_mk (Below.trod laidOut (by kernel_rfl) (of_decide_eq_true (by kernel_rfl)) k0 bel lt0) (trodAll_cons_mk (Below.trod laidOut (by kernel_rfl) (of_decide_eq_true (by kernel_rfl)) k1 bel lt1) trodAll_mk0)), rfl, bel.frame _, fun h => by cases h⟩

theorem over : Rows.twinFramesRow.holds Try.pinned (OpenSpec.ofChange Rows.twinFramesSpec) :=
  OpenClaim.holds_of_wide 3 Try.f3 rfl rfl rfl rfl rfl rfl rfl ⟨rfl, rfl, rfl, rfl, rfl⟩ rfl rfl rfl rfl rfl (by kernel_rfl) Try.func3 (by kernel_rfl)
    (of_decide_eq_true (by kernel_rfl)) (by unfold Func.isWrapper; first | (rw [if_pos (by decide +kernel)]; kernel_rfl) | (rw [if_neg (by decide +kernel)]; exact ⟨rfl, rfl⟩))
    (fun os started H enc _ => lifted os started H enc)
end twinFrames
theorem twinFrames_holds : Rows.TwinFramesSaid := twinFrames.over
end Go.Proofs.Ytlkkbfcedjedoaa
