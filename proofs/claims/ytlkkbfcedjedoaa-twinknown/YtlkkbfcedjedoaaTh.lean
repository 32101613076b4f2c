/- Contracts of twin's Wrap and Reinstate. Conditions: a twin that New made; counts below 2^60; bytes of at most 2^47. -/
import Derived.Test.YtlkkbfcedjedoaaTg
namespace Go.Proofs.Ytlkkbfcedjedoaa
open Go.RowKit
theorem OkT.mono {N M : Nat} {a : Tn} (h : OkT N a) (hm : N ≤ M) : OkT M a := ⟨h.nd, h.lf, h.sz, h.la, fun k => by have := h.c k; omega, by have := h.se; omega, h.well⟩
def Tn.ser (a : Tn) : Tn := { a with se := a.se + 1 }
/-- A twin behind Wrap. -/
def Tn.wrap (a : Tn) : Tn := a.ser.went
theorem OkT.ser {N : Nat} {a : Tn} (h : OkT N a) : OkT (N + 1) a.ser := ⟨h.nd, h.lf, h.sz, h.la, fun k => by have := h.c k; simp only [Tn.ser]; omega, by have := h.se; simp only [Tn.ser]; omega, h.well⟩
theorem OkT.went {N : Nat} {a : Tn} (h : OkT N a) : OkT N a.went := by
  have := (nx_well h).1
  unfold Tn.went
  split
  · exact h
  · exact ⟨h.nd, h.lf, h.sz, this, h.c, h.se, h.well⟩
theorem OkT.wrap {N : Nat} {a : Tn} (h : OkT N a) : OkT (N + 1) a.wrap := h.ser.went
set_option maxRecDepth 100000 in
set_option maxHeartbeats 1000000 in
theorem tWrap_long {p : Nat} {X : Nat → Prop} {N : Nat} {a : Tn} {K : Int → Option Kw} {w : World} (h : Tw w p X a K) (hN : N ≤ 1152921504606846976) (ok : OkT N a) (v : Value) (B : List Int) (hs : Sl w v B) (hl : 512 < B.length) : Calls Try.prog 21 #[.pointer (some ⟨p, 0, none⟩), v] w fun e w' => e = .returned (.tuple #[.slice none 0 0, .int .i64 0, .int .i64 5]) ∧ Mod (fun _ => False) w w' := by
  obtain ⟨Bm, hB⟩ := h.blk
  have H1 := tNone hB ok.nd.1
  have c0 : w.cell? ⟨p, 0, none⟩ = some (.int .i64 a.nd) := hB.cellv (j := 0) rfl
  have c1 : w.cell? ⟨p, 1, none⟩ = some (.int .i64 a.lf) := hB.cellv (j := 1) rfl
  have c10 : w.cell? ⟨p, 10, none⟩ = some (.int .i64 a.se) := hB.cellv (j := 10) rfl
  have hse := ok.se
  have hw : wrap64 ((a.se : Int) + 1) = (a.se : Int) + 1 := by unfold wrap64; omega
  have hw' : IntKind.i64.wrap ((a.se : Int) + 1) = (a.se : Int) + 1 := by rw [IntKind.wrap_i64]; omega
  have HP : ∀ W, Mod (fun _ => False) w W → Calls Try.prog 11 #[.agg #[.int .i64 a.nd, .int .i64 a.lf, .int .i64 ((a.se : Int) + 1), v]] W fun e w' => ∃ v', e = .returned (.tuple #[v', .int .i64 5]) ∧ Mod (fun _ => False) W w' := fun W hW => by
    refine (Pack_any a.nd a.lf _ v B W (hs.mod hW (fun _ _ h => h))).mono ?_
    rintro e w' ⟨v', rfl, _, hm, _⟩
    exact ⟨v', by simp [paE, hl], hm⟩
  have hM0 : Mod (fun _ => False) w w.drew := (Mod.refl _ w).drew
  obtain ⟨ao, cap, rfl, _⟩ := hs.form
  clear h hB ok hs hl
  generalize a.nd = nd at *
  generalize a.lf = lf at *
  generalize a.se = se at *
  go_enter Try.func21, Try.ntmps21
  go_wp2_with (fail)
  refine H1.mono ?_
  rintro e w ⟨rfl, rfl⟩
  go_wp2_with (fail)
  go_region_held3 (fun y => y.cell? ⟨p, 0, none⟩ = some (.int .i64 nd) ∧ y.cell? ⟨p, 1, none⟩ = some (.int .i64 lf) ∧ y.cell? ⟨p, 10, none⟩ = some (.int .i64 se)) (first | with_reducible exact ⟨c0, c1, c10⟩ | go_keep)
    ((go_at_call 11; refine (HP _ hM0).mono ?_; rintro e w1 ⟨v1, rfl, hm1⟩; replace c0 := hm1.cell c0 (fun h => h); replace c1 := hm1.cell c1 (fun h => h); replace c10 := hm1.cell c10 (fun h => h)))
  go_wp2
  go_ret3
  exact ⟨rfl, hM0.trans hm1 (V := fun _ => False) (fun _ _ h => h) (fun _ _ h => h)⟩
set_option maxRecDepth 100000 in
set_option maxHeartbeats 1000000 in
theorem tWrap_ok {p : Nat} {X : Nat → Prop} {N : Nat} {a : Tn} {K : Int → Option Kw} {w : World} (h : Tw w p X a K) (hN : N < 9007199254740991) (ok : OkT N a) (v : Value) (B : List Int) (hs : Sl w v B) (hl : B.length ≤ 512) : Calls Try.prog 21 #[.pointer (some ⟨p, 0, none⟩), v] w fun e w' => ∃ v', e = .returned (.tuple #[v', .int .i64 (a.ser.over : Nat), .int .i64 0]) ∧ Own w' v' (Sm.sealed (fby a.nd a.lf (a.se + 1) B)) ∧ Tw w' p X a.wrap K ∧ Mod (fun i => i = p) w w' ∧ (∀ g, v'.ownBlock = some g → w.heap.size ≤ g) := by
  have hTw := h
  obtain ⟨Bm, hB⟩ := h.blk
  have H1 := tNone hB ok.nd.1
  have c0 : w.cell? ⟨p, 0, none⟩ = some (.int .i64 a.nd) := hB.cellv (j := 0) rfl
  have c1 : w.cell? ⟨p, 1, none⟩ = some (.int .i64 a.lf) := hB.cellv (j := 1) rfl
  have c10 : w.cell? ⟨p, 10, none⟩ = some (.int .i64 a.se) := hB.cellv (j := 10) rfl
  have hse := ok.se
  have hw : wrap64 ((a.se : Int) + 1) = (a.se : Int) + 1 := by unfold wrap64; omega
  have hw' : IntKind.i64.wrap ((a.se : Int) + 1) = (a.se : Int) + 1 := by rw [IntKind.wrap_i64]; omega
  have hE : paE a.nd a.lf ((a.se : Int) + 1) B = 0 := by
    have := ok.nd; have := ok.lf
    unfold paE okF
    rw [if_neg (by omega), decide_eq_true (by omega)]
    rfl
  have HP : ∀ W, Mod (fun _ => False) w W → Calls Try.prog 11 #[.agg #[.int .i64 a.nd, .int .i64 a.lf, .int .i64 ((a.se : Int) + 1), v]] W fun e w' => ∃ v', e = .returned (.tuple #[v', .int .i64 0]) ∧ Own w' v' (Sm.sealed (fby a.nd a.lf ((a.se : Int) + 1) B)) ∧ Mod (fun _ => False) W w' ∧ (∀ g, v'.ownBlock = some g → W.heap.size ≤ g) := fun W hW => by
    refine (Pack_any a.nd a.lf _ v B W (hs.mod hW (fun _ _ h => h))).mono ?_
    rintro e w' ⟨v', rfl, ho, hm, hg⟩
    rw [paD, if_pos hE] at ho
    exact ⟨v', by rw [hE], ho, hm, hg⟩
  have HC : Hid (∀ W, Bk W p 72 (a.ser.cells Bm) → Calls Try.prog 54 #[.pointer (some ⟨p, 0, none⟩)] W fun e w' => e = .returned (.int .i64 (a.ser.over : Nat)) ∧ Bk w' p 72 (a.wrap.cells Bm) ∧ Mod (fun i => i = p) W w') := fun W hW => tchoose hW ok.ser
  have HB : Hid (Bk w p 72 (a.cells Bm)) := hB
  have HT : Hid (∀ w', Bk w' p 72 (a.wrap.cells Bm) → Mod (fun i => i = p) w w' → Tw w' p X a.wrap K) := fun w' h1 h2 => hTw.turn (fun B' hB' => by
    have e : B' = Bm := by
      have := hB'.at'
      rw [hB.at'] at this
      simp [Tn.cells] at this
      exact this.symm
    rw [e]; exact h1) h2
  have HS : Hid (∀ W, Bk W p 72 (a.cells Bm) → Bk (W.setCell ⟨p, 10, none⟩ (.int .i64 ((a.se : Int) + 1))) p 72 (a.ser.cells Bm)) := fun W hW => hW.set 10 _
  have hM0 : Mod (fun _ => False) w w.drew := (Mod.refl _ w).drew
  obtain ⟨ao, cap, rfl, _⟩ := hs.form
  have hpl := hB.lt
  clear h hB ok hs hl hTw hE
  generalize Sm.sealed (fby a.nd a.lf ((a.se : Int) + 1) B) = SL at *
  generalize a.nd = nd at *
  generalize a.lf = lf at *
  generalize a.se = se at *
  generalize a.ser.over = ov at *
  go_enter Try.func21, Try.ntmps21
  go_wp2_with (fail)
  refine H1.mono ?_
  rintro e w ⟨rfl, rfl⟩
  go_wp2_with (fail)
  go_region_held3 (fun y => y.cell? ⟨p, 0, none⟩ = some (.int .i64 nd) ∧ y.cell? ⟨p, 1, none⟩ = some (.int .i64 lf) ∧ y.cell? ⟨p, 10, none⟩ = some (.int .i64 se)) (first | with_reducible exact ⟨c0, c1, c10⟩ | go_keep)
    ((go_at_call 11; refine (HP _ hM0).mono ?_; rintro e w1 ⟨v1, rfl, ho1, hm1, hg1⟩; replace c0 := hm1.cell c0 (fun h => h); replace c1 := hm1.cell c1 (fun h => h); replace c10 := hm1.cell c10 (fun h => h)))
  have hM1 := hM0.trans hm1 (V := fun _ => False) (fun _ _ h => h) (fun _ _ h => h)
  have hB1 := HB.out.mod hM1 (fun h => h)
  have hf1 := hB1.frz 10
  have hB2 := HS.out _ hB1
  have hmS := (Mod.refl (fun i => i = p) w1).setCell ⟨p, 10, none⟩ (.int .i64 ((se : Int) + 1)) (.inl rfl)
  have HC2 := HC.out _ hB2
  clear c0 c1 HP HC HS hB1 hB2 hM0 hm1
  go_wp2_with (fail)
  refine HC2.mono ?_
  rintro e w2 ⟨rfl, hB3, hm3⟩
  go_wp2
  go_ret3
  have hmm := hmS.trans hm3 (V := fun i => i = p) (fun _ _ h => h) (fun _ _ h => h)
  have hMM := hM1.trans hmm (V := fun i => i = p) (fun _ _ h => h.elim) (fun _ _ h => h)
  exact ⟨v1, rfl, ho1.mod hmm (fun g hg e => by have := hg1 g hg; simp at this; omega), HT.out _ hB3 hMM, hMM, fun g hg => hg1 g hg⟩
/-- A lane taken as well again. -/
def Tn.clr (a : Tn) (n : Nat) : Tn := { a with f := fun i => if i = n then false else a.f i }
def Tn.evn (a : Tn) (t : Int) (j : Nat) : Tn := { a with c := fun i => if i < j then t else a.c i }
def Tn.rein (a : Tn) (n : Nat) : Tn := (a.clr n).evn (gr a.c (2 ^ a.sz - 1) a.sz) a.sz
theorem evn_zero (a : Tn) (t : Int) : a.evn t 0 = a := by simp [Tn.evn]
theorem evn_step (a : Tn) (t : Int) (B k : Nat) (hk : k < 3) : ((a.evn t k).cells B).setIfInBounds (3 + 2 * k) (.int .i64 t) = (a.evn t (k + 1)).cells B := by
  rw [cells_setc _ _ _ hk]
  congr 1
  unfold Tn.evn
  congr 1
  funext i
  by_cases e : i = k
  · simp [e]
  · by_cases h : i < k
    · simp [e, h, show i < k + 1 by omega]
    · simp [e, h, show ¬ i < k + 1 by omega]
theorem OkT.rein {N : Nat} {a : Tn} (h : OkT N a) {n : Nat} (hn : n < a.sz) : OkT N (a.rein n) := by
  have hg := gr_bound a.c (2 ^ a.sz - 1) N (by omega) h.c a.sz
  refine ⟨h.nd, h.lf, h.sz, h.la, fun k => ?_, h.se, n, hn, ?_⟩
  · simp only [Tn.rein, Tn.evn, Tn.clr]
    split
    · exact hg
    · exact h.c k
  · simp [Tn.rein, Tn.evn, Tn.clr]
theorem tRein_arg {p : Nat} {X : Nat → Prop} {N : Nat} {a : Tn} {K : Int → Option Kw} {w : World} (h : Tw w p X a K) (ok : OkT N a) (n : Int) (hn : ¬ (0 ≤ n ∧ n < a.sz)) : Calls Try.prog 25 #[.pointer (some ⟨p, 0, none⟩), .int .i64 n] w fun e w' => e = .returned (.int .i64 2) ∧ w' = w := by
  obtain ⟨Bm, hB⟩ := h.blk
  have H1 := tcheck hB ok.nd.1 n
  rw [laneE, if_neg hn] at H1
  clear h hB ok hn
  go_enter Try.func25, Try.ntmps25
  go_wp2_with (fail)
  refine H1.mono ?_
  rintro e w ⟨rfl, rfl⟩
  go_wp2
  go_ret
  exact ⟨rfl, rfl⟩
theorem tRein_well {p : Nat} {X : Nat → Prop} {N : Nat} {a : Tn} {K : Int → Option Kw} {w : World} (h : Tw w p X a K) (ok : OkT N a) (n : Nat) (hn : n < a.sz) (hf : a.f n = false) : Calls Try.prog 25 #[.pointer (some ⟨p, 0, none⟩), .int .i64 n] w fun e w' => e = .returned (.int .i64 80) ∧ w' = w := by
  obtain ⟨Bm, hB⟩ := h.blk
  have H1 := tcheck hB ok.nd.1 n
  rw [laneE, if_pos (by omega)] at H1
  have hs := ok.sz
  have ff := hB.cellv (cell_f a Bm n (by omega))
  rw [hf] at ff
  clear h hB ok hf
  rcases (by omega : n = 0 ∨ n = 1 ∨ n = 2) with rfl | rfl | rfl
  all_goals
    go_enter Try.func25, Try.ntmps25
    go_wp2_with (fail)
    refine H1.mono ?_
    rintro e w ⟨rfl, rfl⟩
    go_wp2
    go_ret
    exact ⟨rfl, rfl⟩
set_option maxRecDepth 100000 in
set_option maxHeartbeats 1000000 in
theorem tRein_ok {p : Nat} {X : Nat → Prop} {N : Nat} {a : Tn} {K : Int → Option Kw} {w : World} (h : Tw w p X a K) (ok : OkT N a) (n : Nat) (hn : n < a.sz) (hf : a.f n = true) : Calls Try.prog 25 #[.pointer (some ⟨p, 0, none⟩), .int .i64 n] w fun e w' => e = .returned (.int .i64 0) ∧ Tw w' p X (a.rein n) K ∧ Mod (fun i => i = p) w w' := by
  have hTw := h
  obtain ⟨Bm, hB⟩ := h.blk
  have H1 := tcheck hB ok.nd.1 n
  rw [laneE, if_pos (by omega)] at H1
  have hs := ok.sz
  have ff := hB.cellv (cell_f a Bm n (by omega))
  have fz := hB.frz (4 + 2 * n)
  rw [hf] at ff
  have hB1 : Bk (w.setCell ⟨p, 4 + 2 * n, none⟩ (.bool false)) p 72 ((a.clr n).cells Bm) := by
    have := hB.set (4 + 2 * n) (.bool false)
    rw [cells_setf _ _ _ (by omega)] at this
    exact this
  have c9 : (w.setCell ⟨p, 4 + 2 * n, none⟩ (.bool false)).cell? ⟨p, 9, none⟩ = some (.int .i64 a.sz) := hB1.cellv (j := 9) rfl
  have hp8 : 2 ^ a.sz - 1 < 8 := by
    rcases (by omega : a.sz = 1 ∨ a.sz = 2 ∨ a.sz = 3) with e | e | e <;> rw [e] <;> decide
  have H2 := tgreatest hB1 hs.2 (2 ^ a.sz - 1) hp8
  have hz : a.sz = (a.clr n).sz := rfl
  have hcc : (a.clr n).c = a.c := rfl
  rw [← hz, hcc] at H2
  obtain ⟨z, hze⟩ : ∃ z, z = a.sz := ⟨_, rfl⟩
  have HR : Hid (a.rein n = (a.clr n).evn (gr a.c (2 ^ a.sz - 1) a.sz) z) := by show _ = _; rw [hze]; rfl
  have HT : Hid (∀ w', Bk w' p 72 ((a.rein n).cells Bm) → Mod (fun i => i = p) w w' → Tw w' p X (a.rein n) K) := fun w' h1 h2 => hTw.turn (fun B' hB' => by
    have e : B' = Bm := by
      have := hB'.at'
      rw [hB.at'] at this
      simp [Tn.cells] at this
      exact this.symm
    rw [e]; exact h1) h2
  have hM1 := (Mod.refl (fun i => i = p) w).setCell ⟨p, 4 + 2 * n, none⟩ (.bool false) (.inl rfl)
  generalize gr a.c (2 ^ a.sz - 1) a.sz = T at *
  have HB : Hid (Bk (w.setCell ⟨p, 4 + 2 * n, none⟩ (.bool false)) p 72 (((a.clr n).evn T 0).cells Bm)) := by show Bk _ _ _ _; rw [evn_zero]; exact hB1
  rw [← hze] at hs hn c9 H2
  clear h hB ok hf hB1 hTw hp8 hz hcc hze
  generalize a.clr n = b at *
  generalize a.rein n = r at *
  generalize hW : w.setCell ⟨p, 4 + 2 * n, none⟩ (.bool false) = W at *
  have hW2 : w.setCell ⟨p, 4 + 2 * n, none⟩ (.bool false) = W := hW
  rcases (by omega : z = 1 ∨ z = 2 ∨ z = 3) with rfl | rfl | rfl
  · obtain rfl : n = 0 := by omega
    all_goals
      go_enter Try.func25, Try.ntmps25
      go_wp2_with (fail)
      refine H1.mono ?_
      rintro e w ⟨rfl, rfl⟩
      go_wp2_with (fail)
      refine H2.mono ?_
      rintro e w2 ⟨rfl, hw2⟩
      rw [hw2]
      clear hw2 H1 H2 ff fz
      go_wp2
      go_loopw [42] (fun i wr => ∃ k : Nat, i = .int .i64 (k : Int) ∧ k ≤ 1 ∧ Hid (Bk wr p 72 ((b.evn T k).cells Bm)) ∧ Mod (fun i => i = p) w wr) (fun i _ => 1 - (intOf i).toNat)
      case atStart => exact ⟨0, rfl, by omega, HB, hM1⟩
      case round =>
        obtain ⟨k, rfl, hk, hBk, hM⟩ := hrel
        clear HB c9 hM1 hW hW2
        by_cases hlt : k < 1
        · have hi : (k : Int) < (1 : Int) := by omega
          have cc := hBk.out.cellv (cell_c _ Bm k (by omega))
          have fz := hBk.out.frz (3 + 2 * k)
          have hN : Hid (Bk (wr.setCell ⟨p, 3 + 2 * k, none⟩ (.int .i64 T)) p 72 ((b.evn T (k + 1)).cells Bm)) := by
            have := hBk.out.set (3 + 2 * k) (.int .i64 T)
            rw [evn_step _ _ _ _ (by omega)] at this
            exact this
          have hM2 := hM.setCell ⟨p, 3 + 2 * k, none⟩ (.int .i64 T) (.inl rfl)
          generalize (b.evn T k).c k = x at *
          clear hBk hM
          rcases (by omega : k = 0 ∨ k = 1 ∨ k = 2) with rfl | rfl | rfl <;> (first | omega | skip)
          all_goals
            go_wp2
            go_roundw
            (case rel => exact ⟨_, by first | rfl | go_num, by omega, hN, hM2⟩)
            (case measure => simp [intOf])
        · have hkz : k = 1 := by omega
          rw [hkz] at hBk
          go_wp2
          go_ret
          exact ⟨rfl, HT.out _ (HR.out ▸ hBk.out) hM, hM⟩
  · rcases (by omega : n = 0 ∨ n = 1) with rfl | rfl
    all_goals
      go_enter Try.func25, Try.ntmps25
      go_wp2_with (fail)
      refine H1.mono ?_
      rintro e w ⟨rfl, rfl⟩
      go_wp2_with (fail)
      refine H2.mono ?_
      rintro e w2 ⟨rfl, hw2⟩
      rw [hw2]
      clear hw2 H1 H2 ff fz
      go_wp2
      go_loopw [42] (fun i wr => ∃ k : Nat, i = .int .i64 (k : Int) ∧ k ≤ 2 ∧ Hid (Bk wr p 72 ((b.evn T k).cells Bm)) ∧ Mod (fun i => i = p) w wr) (fun i _ => 2 - (intOf i).toNat)
      case atStart => exact ⟨0, rfl, by omega, HB, hM1⟩
      case round =>
        obtain ⟨k, rfl, hk, hBk, hM⟩ := hrel
        clear HB c9 hM1 hW hW2
        by_cases hlt : k < 2
        · have hi : (k : Int) < (2 : Int) := by omega
          have cc := hBk.out.cellv (cell_c _ Bm k (by omega))
          have fz := hBk.out.frz (3 + 2 * k)
          have hN : Hid (Bk (wr.setCell ⟨p, 3 + 2 * k, none⟩ (.int .i64 T)) p 72 ((b.evn T (k + 1)).cells Bm)) := by
            have := hBk.out.set (3 + 2 * k) (.int .i64 T)
            rw [evn_step _ _ _ _ (by omega)] at this
            exact this
          have hM2 := hM.setCell ⟨p, 3 + 2 * k, none⟩ (.int .i64 T) (.inl rfl)
          generalize (b.evn T k).c k = x at *
          clear hBk hM
          rcases (by omega : k = 0 ∨ k = 1 ∨ k = 2) with rfl | rfl | rfl <;> (first | omega | skip)
          all_goals
            go_wp2
            go_roundw
            (case rel => exact ⟨_, by first | rfl | go_num, by omega, hN, hM2⟩)
            (case measure => simp [intOf])
        · have hkz : k = 2 := by omega
          rw [hkz] at hBk
          go_wp2
          go_ret
          exact ⟨rfl, HT.out _ (HR.out ▸ hBk.out) hM, hM⟩
  · rcases (by omega : n = 0 ∨ n = 1 ∨ n = 2) with rfl | rfl | rfl
    all_goals
      go_enter Try.func25, Try.ntmps25
      go_wp2_with (fail)
      refine H1.mono ?_
      rintro e w ⟨rfl, rfl⟩
      go_wp2_with (fail)
      refine H2.mono ?_
      rintro e w2 ⟨rfl, hw2⟩
      rw [hw2]
      clear hw2 H1 H2 ff fz
      go_wp2
      go_loopw [42] (fun i wr => ∃ k : Nat, i = .int .i64 (k : Int) ∧ k ≤ 3 ∧ Hid (Bk wr p 72 ((b.evn T k).cells Bm)) ∧ Mod (fun i => i = p) w wr) (fun i _ => 3 - (intOf i).toNat)
      case atStart => exact ⟨0, rfl, by omega, HB, hM1⟩
      case round =>
        obtain ⟨k, rfl, hk, hBk, hM⟩ := hrel
        clear HB c9 hM1 hW hW2
        by_cases hlt : k < 3
        · have hi : (k : Int) < (3 : Int) := by omega
          have cc := hBk.out.cellv (cell_c _ Bm k (by omega))
          have fz := hBk.out.frz (3 + 2 * k)
          have hN : Hid (Bk (wr.setCell ⟨p, 3 + 2 * k, none⟩ (.int .i64 T)) p 72 ((b.evn T (k + 1)).cells Bm)) := by
            have := hBk.out.set (3 + 2 * k) (.int .i64 T)
            rw [evn_step _ _ _ _ (by omega)] at this
            exact this
          have hM2 := hM.setCell ⟨p, 3 + 2 * k, none⟩ (.int .i64 T) (.inl rfl)
          generalize (b.evn T k).c k = x at *
          clear hBk hM
          rcases (by omega : k = 0 ∨ k = 1 ∨ k = 2) with rfl | rfl | rfl <;> (first | omega | skip)
          all_goals
            go_wp2
            go_roundw
            (case rel => exact ⟨_, by first | rfl | go_num, by omega, hN, hM2⟩)
            (case measure => simp [intOf])
        · have hkz : k = 3 := by omega
          rw [hkz] at hBk
          go_wp2
          go_ret
          exact ⟨rfl, HT.out _ (HR.out ▸ hBk.out) hM, hM⟩
end Go.Proofs.Ytlkkbfcedjedoaa
