/- Contract of twin's Unwrap. Conditions: a twin that New made; counts below 2^60; bytes of at most 2^47. -/
import Derived.Test.YtlkkbfcedjedoaaTh
import Derived.Test.YtlkkbfcedjedoaaTi
namespace Go.Proofs.Ytlkkbfcedjedoaa
open Go.RowKit
theorem on_bit (f : Nat → Bool) (b : Bool) {z i : Nat} (hz : z ≤ 3) (hi : i < z) : on f b z / 2 ^ i % 2 = 1 ↔ f i = b := by
  rcases (by omega : z = 1 ∨ z = 2 ∨ z = 3) with rfl | rfl | rfl <;> rcases (by omega : i = 0 ∨ i = 1 ∨ i = 2) with rfl | rfl | rfl <;> (first | omega | skip) <;> (cases h0 : f 0 <;> cases h1 : f 1 <;> cases h2 : f 2 <;> cases b <;> simp [on, h0, h1, h2])
theorem gr_att (c : Nat → Int) (m : Nat) : ∀ k, gr c m k = 0 ∨ ∃ i, i < k ∧ m / 2 ^ i % 2 = 1 ∧ gr c m k = c i
  | 0 => .inl rfl
  | k + 1 => by
    rw [gr]
    by_cases hb : m / 2 ^ k % 2 = 1
    · rw [if_pos hb]
      by_cases hm : gr c m k ≤ c k
      · exact .inr ⟨k, by omega, hb, by omega⟩
      · rw [show max (gr c m k) (c k) = gr c m k by omega]
        rcases gr_att c m k with h | ⟨i, h1, h2, h3⟩
        · exact .inl h
        · exact .inr ⟨i, by omega, h2, h3⟩
    · rw [if_neg hb]
      rcases gr_att c m k with h | ⟨i, h1, h2, h3⟩
      · exact .inl h
      · exact .inr ⟨i, by omega, h2, h3⟩
/-- One lane that is well has the greatest count. -/
theorem top_well {N : Nat} {a : Tn} (ok : OkT N a) : ∃ k, k < a.sz ∧ a.f k = false ∧ a.top ≤ a.c k := by
  obtain ⟨k, hk, hf⟩ := ok.well
  rcases gr_att a.c (on a.f false a.sz) a.sz with h | ⟨i, h1, h2, h3⟩
  · exact ⟨k, hk, hf, by unfold Tn.top; rw [h]; exact (ok.c k).1⟩
  · exact ⟨i, h1, (on_bit a.f false ok.sz.2 h1).1 h2, by unfold Tn.top; rw [h3]; exact Int.le_refl _⟩
theorem OkT.look {N : Nat} {a : Tn} (ok : OkT N a) : OkT N a.look := by
  obtain ⟨k, h1, h2, h3⟩ := top_well ok
  refine ⟨ok.nd, ok.lf, ok.sz, ok.la, ok.c, ok.se, k, h1, ?_⟩
  show a.lkf a.sz k = false
  unfold Tn.lkf
  rw [if_neg (by omega)]
  exact h2
/-- One more came over a lane. -/
def Tn.cnt (a : Tn) (n : Nat) : Tn := { a with c := fun i => if i = n then a.c n + 1 else a.c i }
theorem OkT.cnt {N : Nat} {a : Tn} (ok : OkT N a) (n : Nat) : OkT (N + 1) (a.cnt n) := by
  refine ⟨ok.nd, ok.lf, ok.sz, ok.la, fun k => ?_, by have := ok.se; simp only [Tn.cnt]; omega, ok.well⟩
  simp only [Tn.cnt]
  split
  · have := ok.c n; omega
  · have := ok.c k; omega
/-- A twin behind Unwrap. -/
def Tn.came (a : Tn) (n : Nat) : Tn := (a.cnt n).look
theorem OkT.came {N : Nat} {a : Tn} (ok : OkT N a) (n : Nat) : OkT (N + 1) (a.came n) := (ok.cnt n).look
theorem tUnwrap_arg {p : Nat} {X : Nat → Prop} {N : Nat} {a : Tn} {K : Int → Option Kw} {w : World} (h : Tw w p X a K) (ok : OkT N a) (n : Int) (hn : ¬ (0 ≤ n ∧ n < a.sz)) (v : Value) : Calls Try.prog 23 #[.pointer (some ⟨p, 0, none⟩), .int .i64 n, v] w fun e w' => e = .returned (.tuple #[.slice none 0 0, .bool false, .int .i64 2]) ∧ w' = w := by
  obtain ⟨Bm, hB⟩ := h.blk
  have H1 := tcheck hB ok.nd.1 n
  rw [laneE, if_neg hn] at H1
  clear h hB ok hn
  go_enter Try.func23, Try.ntmps23
  go_wp2_with (fail)
  refine H1.mono ?_
  rintro e w ⟨rfl, rfl⟩
  go_wp2
  go_ret3
  exact ⟨rfl, rfl⟩
theorem tUnwrap_err {p : Nat} {X : Nat → Prop} {N : Nat} {a : Tn} {K : Int → Option Kw} {w : World} (h : Tw w p X a K) (ok : OkT N a) (n : Int) (hn : 0 ≤ n ∧ n < a.sz) (v : Value) (b : List Int) (hs : Sl w v b) (hb : b.length ≤ 140737488355328) (hE : ¬ opE b = 0) : Calls Try.prog 23 #[.pointer (some ⟨p, 0, none⟩), .int .i64 n, v] w fun e w' => e = .returned (.tuple #[.slice none 0 0, .bool false, .int .i64 (opE b)]) ∧ Mod (fun _ => False) w w' := by
  obtain ⟨Bm, hB⟩ := h.blk
  have H1 := tcheck hB ok.nd.1 n
  rw [laneE, if_pos hn] at H1
  have H2 : Calls Try.prog 15 #[v] w fun e w' => ∃ n0 n1 n2 ao m cap, e = .returned (.tuple #[.agg #[.int .i64 n0, .int .i64 n1, .int .i64 n2, .slice ao m cap], .int .i64 (opE b)]) ∧ Mod (fun _ => False) w w' := by
    refine (tOpen_any v b w hs hb).mono ?_
    rintro e w' ⟨bv, rfl, hm, ho, _⟩
    obtain ⟨ao, cap, rfl⟩ := ho.shape
    exact ⟨_, _, _, ao, _, cap, rfl, hm⟩
  generalize opE b = er at *
  clear h hB ok hn hs hb
  go_enter Try.func23, Try.ntmps23
  go_wp2_with (fail)
  refine H1.mono ?_
  rintro e w ⟨rfl, rfl⟩
  go_wp2_with (fail)
  refine H2.mono ?_
  rintro e w1 ⟨n0, n1, n2, ao, m, cap, rfl, hm⟩
  go_wp2
  go_ret3
  exact ⟨rfl, hm.alloc _⟩
set_option maxRecDepth 100000 in
set_option maxHeartbeats 1000000 in
theorem tUnwrap_ok {p : Nat} {X : Nat → Prop} {N : Nat} {a : Tn} {K : Int → Option Kw} {w : World} (h : Tw w p X a K) (hN : N < 1152921504606846976) (ok : OkT N a) (n : Nat) (hn : n < a.sz) (v : Value) (b : List Int) (hs : Sl w v b) (hb : b.length ≤ 140737488355328) (hE : opE b = 0) :
    Calls Try.prog 23 #[.pointer (some ⟨p, 0, none⟩), .int .i64 n, v] w fun e w' => ∃ v' X', e = .returned (.tuple #[v', .bool (nwB K (opN b 0) (opN b 1) (opN b 2)), .int .i64 0]) ∧ Own w' v' (opB b) ∧ (∀ g, v'.ownBlock = some g → w.heap.size ≤ g ∧ ¬ X' g) ∧ Tw w' p X' (a.came n) (nwK K (opN b 0) (opN b 1) (opN b 2)) ∧ Mod X w w' ∧ Gone w X X' := by
  have hTw := h
  obtain ⟨Bm, hB⟩ := h.blk
  have hpx := h.px
  have H1 := tcheck hB ok.nd.1 n
  rw [laneE, if_pos (by omega)] at H1
  have H2 := tOpen_any v b w hs hb
  have hz := ok.sz
  have hc := ok.c n
  have okf := (opE_parts hE).2.2.2
  have e0 : ∀ i, opN b i = rfN (Sm.openD b) i := fun i => by simp [opN, hE]
  rw [← e0, ← e0, ← e0] at okf
  obtain ⟨o1, o2, o3, _⟩ := okF_parts okf
  have HX : Hid (∀ b, X b → b < w.heap.size) := h.lt
  have HT : Hid (∀ w', (∀ B', Bk w p 72 (a.cells B') → Bk w' p 72 ((a.came n).cells B')) → Mod (fun i => i = p) w w' → Tw w' p X (a.came n) K) := fun w' h1 h2 => hTw.turn h1 h2
  have HB : Hid (∀ B', Bk w p 72 (a.cells B') → B' = Bm) := fun B' hB' => by
    have := hB'.at'
    rw [hB.at'] at this
    simp [Tn.cells] at this
    exact this.symm
  have HL : Hid (∀ W, Bk W p 72 ((a.cnt n).cells Bm) → Calls Try.prog 57 #[.pointer (some ⟨p, 0, none⟩)] W fun e w' => e = .returned (.tuple #[]) ∧ Bk w' p 72 ((a.came n).cells Bm) ∧ Mod (fun i => i = p) W w') := fun W hW => tlook hW (N := N + 1) (by omega) (ok.cnt n)
  have HI : Hid (∀ (W : World) (ao : Option Addr) (m cap : Nat), Tw W p X (a.came n) K → Calls Try.prog 58 #[.pointer (some ⟨p, 0, none⟩), .agg #[.int .i64 (opN b 0), .int .i64 (opN b 1), .int .i64 (opN b 2), .slice ao m cap]] W fun e w' => ∃ X', e = .returned (.bool (nwB K (opN b 0) (opN b 1) (opN b 2))) ∧ Tw w' p X' (a.came n) (nwK K (opN b 0) (opN b 1) (opN b 2)) ∧ Mod X W w' ∧ Gone W X X') := fun W ao m cap hW => isNew_any hW _ _ _ ao m cap o1 o3
  have HS : Hid (∀ W, Bk W p 72 (a.cells Bm) → Bk (W.setCell ⟨p, 3 + 2 * n, none⟩ (.int .i64 (a.c n + 1))) p 72 ((a.cnt n).cells Bm)) := fun W hW => by
    have := hW.set (3 + 2 * n) (.int .i64 (a.c n + 1))
    rw [cells_setc _ _ _ (by omega)] at this
    exact this
  have hw : wrap64 (a.c n + 1) = a.c n + 1 := by unfold wrap64; omega
  have hw' : IntKind.i64.wrap (a.c n + 1) = a.c n + 1 := by rw [IntKind.wrap_i64]; omega
  clear h hTw okf e0 o1 o2 o3 hb hs
  have hplt := hB.lt
  generalize nwB K (opN b 0) (opN b 1) (opN b 2) = NB at *
  generalize nwK K (opN b 0) (opN b 1) (opN b 2) = NK at *
  go_enter Try.func23, Try.ntmps23
  go_wp2_with (fail)
  refine H1.mono ?_
  rintro e w ⟨rfl, rfl⟩
  go_wp2_with (fail)
  refine H2.mono ?_
  rintro e w1 ⟨bv, rfl, hm1, ho1, hg1⟩
  rw [hE]
  obtain ⟨ao, cap, rfl⟩ := ho1.shape
  clear H1 H2
  generalize opN b 0 = n0 at *
  generalize opN b 1 = n1 at *
  generalize opN b 2 = n2 at *
  generalize hOB : opB b = OB at *
  have HOB : Hid (opB b = OB) := hOB
  clear hOB
  have hM2 := hm1.alloc (.cells #[.int .i64 n0, .int .i64 n1, .int .i64 n2, .slice ao OB.length cap] 24)
  have hF2 := Bk.new w1 #[.int .i64 n0, .int .i64 n1, .int .i64 n2, .slice ao OB.length cap] 24
  have ho2 := ho1.mod ((Mod.refl (fun _ => False) w1).alloc (.cells #[.int .i64 n0, .int .i64 n1, .int .i64 n2, .slice ao OB.length cap] 24)) (fun _ _ h => h)
  have hsz1 := hm1.size
  have hlt1 := ho1.lt
  go_wp2_with (fail)
  obtain ⟨fb, hfb⟩ : ∃ fb, fb = w1.heap.size := ⟨_, rfl⟩
  rw [← hfb] at hF2 hsz1 hlt1 ⊢
  have HFB : Hid (fb = w1.heap.size) := hfb
  clear hfb
  generalize w1.alloc (.cells #[.int .i64 n0, .int .i64 n1, .int .i64 n2, .slice ao OB.length cap] 24) = w2 at *
  have hB2 := hB.mod hM2 (fun h => h)
  have cc := hB2.cellv (cell_c a Bm n (by omega))
  have fz := hB2.frz (3 + 2 * n)
  have hB3 := HS.out _ (hB2.mod ((Mod.refl (fun _ => False) w2).drew) (fun h => h))
  have hm3 := (Mod.refl (fun i => i = p) w2.drew).setCell ⟨p, 3 + 2 * n, none⟩ (.int .i64 (a.c n + 1)) (.inl rfl)
  have HL3 := HL.out _ hB3
  have hF3 := (hF2.mod ((Mod.refl (fun _ => False) w2).drew) (fun h => h)).mod hm3 (by omega)
  have ho3 := (ho2.mod ((Mod.refl (fun _ => False) w2).drew) (fun _ _ h => h)).mod hm3 (fun g hg e => by have := hg1 g hg; omega)
  have hM3 := (hM2.drew).trans hm3 (V := fun i => i = p) (fun _ _ h => h.elim) (fun _ _ h => h)
  clear hB2 hB3 hm1 hM2 hF2 ho2 ho1 HS HL
  have hnn : (n : Int) < 3 := by omega
  generalize a.c n = x at *
  rcases (by omega : n = 0 ∨ n = 1 ∨ n = 2) with rfl | rfl | rfl
  all_goals
    go_region
    go_wp2_with (fail)
    refine HL3.mono ?_
    rintro e w4 ⟨rfl, hB4, hm4⟩
    have hF4 := hF3.mod hm4 (show ¬ fb = p by omega)
    have ho4 := ho3.mod hm4 (fun g hg e => by have := hg1 g hg; omega)
    have hM4 := hM3.trans hm4 (V := fun i => i = p) (fun _ _ h => h) (fun _ _ h => h)
    have hT4 := HT.out w4 (fun B' hB' => by rw [HB.out B' hB']; exact hB4) hM4
    have hmd := (Mod.refl (fun _ => False) w4).drew
    have HI4 := HI.out _ ao OB.length cap (hT4.mod hmd (fun _ _ h => h))
    have g0 := hmd.cell (hF4.cellv (j := 0) rfl) (fun h => h)
    have g1 := hmd.cell (hF4.cellv (j := 1) rfl) (fun h => h)
    have g2 := hmd.cell (hF4.cellv (j := 2) rfl) (fun h => h)
    have g3 := hmd.cell (hF4.cellv (j := 3) rfl) (fun h => h)
    have hfX : ¬ X fb := fun h => by have := HX.out fb h; omega
    have hlt4 := hF4.lt
    clear HL3 HI hF3 ho3 hM3 cc fz hB4 hm4 hm3 HT
    go_wp2_with (fail)
    go_region_held3 (fun y => y.cell? ⟨fb, 0, none⟩ = some (.int .i64 n0) ∧ y.cell? ⟨fb, 1, none⟩ = some (.int .i64 n1) ∧ y.cell? ⟨fb, 2, none⟩ = some (.int .i64 n2) ∧ y.cell? ⟨fb, 3, none⟩ = some (.slice ao OB.length cap)) (first | with_reducible exact ⟨g0, g1, g2, g3⟩ | go_keep)
      ((go_at_call 58; refine HI4.mono ?_; rintro e w5 ⟨X5, rfl, hT5, hm5, hgo5⟩; replace g0 := hm5.cell g0 hfX; replace g1 := hm5.cell g1 hfX; replace g2 := hm5.cell g2 hfX; replace g3 := hm5.cell g3 hfX))
    go_wp2
    go_ret3
    have hnX : ∀ g, (Value.slice ao OB.length cap).ownBlock = some g → ¬ X g := fun g hg h => by have := HX.out g h; have := hg1 g hg; omega
    refine ⟨.slice ao OB.length cap, X5, rfl, by rw [HOB.out]; exact (ho4.mod hmd (fun _ _ h => h)).mod hm5 hnX, fun g hg => ⟨hg1 g hg, fun h => ?_⟩, hT5, hM4.trans (hmd.trans hm5 (V := X) (fun _ _ h => h.elim) (fun _ _ h => h)) (fun i _ h => by rw [h]; exact hpx) (fun _ _ h => h), fun b hb => ?_⟩
    · rcases hgo5 g h with h1 | h1
      · exact hnX g hg h1
      · have := hlt1 g hg
        simp at h1
        omega
    · rcases hgo5 b hb with h1 | h1
      · exact .inl h1
      · simp at h1
        exact .inr (by omega)
end Go.Proofs.Ytlkkbfcedjedoaa
