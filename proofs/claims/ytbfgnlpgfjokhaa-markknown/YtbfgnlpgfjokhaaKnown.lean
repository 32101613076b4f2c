/- MarkKnown: the chapter's examples, both ends. No conditions. -/
import Derived.Test.YtbfgnlpgfjokhaaOa
import Derived.Test.YtbfgnlpgfjokhaaUn
import Derived.Test.YtbfgnlpgfjokhaaEn
import Derived.Maps.AppendAt
namespace Go.Proofs.Ytbfgnlpgfjokhaa
open Go.RowKit
theorem Rings_at {q r q' r' : Int} (z : Int) (h : rg q r q' r' = z) (w : World) : Calls Try.prog 13 #[.agg #[.int .i64 q, .int .i64 r], .agg #[.int .i64 q', .int .i64 r']] w fun e w' => e = .returned (.int .i64 z) ∧ Mod (fun _ => False) w w' := h ▸ Rings q r q' r' w
theorem Keys_at {s q r n s' q' r' n' : Int} (z : Int) (h : ks s q r n s' q' r' n' = z) (w : World) : Calls Try.prog 15 #[.agg #[.int .i64 s, .int .i64 q, .int .i64 r, .int .i64 n], .agg #[.int .i64 s', .int .i64 q', .int .i64 r', .int .i64 n']] w fun e w' => e = .returned (.int .i64 z) ∧ Mod (fun _ => False) w w' := h ▸ Keys s q r n s' q' r' n' w
theorem CheckRing_at {q r : Int} (z : Int) (h : cr q r = z) (w : World) : Calls Try.prog 9 #[.agg #[.int .i64 q, .int .i64 r]] w fun e w' => e = .returned (.int .i64 z) ∧ Mod (fun _ => False) w w' := h ▸ CheckRing q r w
theorem Check_at {s q r n : Int} (z : Int) (h : ck s q r n = z) (w : World) : Calls Try.prog 11 #[.agg #[.int .i64 s, .int .i64 q, .int .i64 r, .int .i64 n]] w fun e w' => e = .returned (.int .i64 z) ∧ Mod (fun _ => False) w w' := h ▸ Check s q r n w
theorem Pack_at {s q r n : Int} (x y z : Int) (h1 : px s q r n = x) (h2 : py s q r n = y) (h3 : pe s q r n = z) (w : World) : Calls Try.prog 18 #[.agg #[.int .i64 s, .int .i64 q, .int .i64 r, .int .i64 n]] w fun e w' => e = .returned (.tuple #[.agg #[.int .u64 x, .int .u64 y], .int .i64 z]) ∧ Mod (fun _ => False) w w' := by
  subst h1 h2 h3
  exact Pack s q r n w
theorem Unpack_at {a b : Int} (s q r n z : Int) (ha : 0 ≤ a ∧ a < 18446744073709551616) (hb : 0 ≤ b ∧ b < 18446744073709551616) (h1 : vs a b = s) (h2 : vq a b = q) (h3 : vr a b = r) (h4 : vn a b = n) (h5 : ue a b = z) (w : World) :
    Calls Try.prog 20 #[.agg #[.int .u64 a, .int .u64 b]] w fun e w' => e = .returned (.tuple #[.agg #[.int .i64 s, .int .i64 q, .int .i64 r, .int .i64 n], .int .i64 z]) ∧ Mod (fun _ => False) w w' := by
  subst h1 h2 h3 h4 h5
  exact Unpack a b w ha hb
theorem keq25 (s q r n : Int) (w : World) : (Op.equalIn 10000 25 (.agg #[.int .i64 s, .int .i64 q, .int .i64 r, .int .i64 n]) (.agg #[.int .i64 s, .int .i64 q, .int .i64 r, .int .i64 n])).run Try.prog w = .ok true w := by
  rw [eq25, ks_zero.2 ⟨rfl, rfl, rfl, rfl⟩]
  rfl
theorem keq34 (a b : Int) (w : World) : (Op.equalIn 10000 34 (.agg #[.int .u64 a, .int .u64 b]) (.agg #[.int .u64 a, .int .u64 b])).run Try.prog w = .ok true w := by
  rw [eq34]
  simp
/-- A slice of error numbers that the call itself has made. -/
def Oe (w : World) (v : Value) (l : List Int) : Prop := w.ownsRow 0 26 1 v l.length (U l)
theorem Oe.mod {w w' : World} {v : Value} {l : List Int} (h : Oe w v l) (hm : Mod (fun _ => False) w w') : Oe w' v l := by
  obtain ⟨h1, h2⟩ := h
  refine ⟨h1, ?_⟩
  rcases h2 with h2 | ⟨g, cap, cur, rfl, hb, hg, r⟩
  · exact Or.inl h2
  · exact Or.inr ⟨g, cap, cur, rfl, hb, hm.obj hg (fun h => h), r⟩
theorem Oe.alloc {w : World} {v : Value} {l : List Int} (h : Oe w v l) (o : Obj) : Oe (w.alloc o) v l := h.mod ((Mod.refl (fun _ => False) w).alloc o)
/-- New: in blocks that were not there. -/
def New (w : World) (v : Value) : Prop := ∀ g, v.ownBlock = some g → w.heap.size ≤ g
theorem Oe.one {w wr w1 : World} {g cap : Nat} {v' : Value} {l' : List Int} {c : Int} {t : TypeId} (hm : Mod (fun _ => False) w wr) (hv : New w v')
    (hown : w1.ownsRow 0 26 1 (.slice (some ⟨g, 0, none⟩) (l'.length + 1) cap) (l'.length + 1) (U l' ++ [.int .i64 c]))
    (hgrow : (wr.alloc (.cells #[.int .i64 c] t)).grownBy w1 v'.ownBlock) (hg : v'.ownBlock = some g ∨ g = wr.heap.size + 1) :
    Oe w1 (.slice (some ⟨g, 0, none⟩) (l'.length + 1) cap) (l' ++ [c]) ∧ Mod (fun _ => False) w w1 ∧ New w (Value.slice (some ⟨g, 0, none⟩) (l'.length + 1) cap) := by
  refine ⟨?_, (hm.alloc _).grown hgrow (fun k hk hlt => by have := hv k hk; omega), ?_⟩
  · unfold Oe
    rw [U_app]
    simpa [U] using hown
  · intro g' hg'
    simp only [Value.ownBlock, Option.some.injEq] at hg'
    subst hg'
    rcases hg with h | h
    · exact hv _ h
    · have := hm.size
      omega
theorem Oe.at {w : World} {v : Value} {l : List Int} (h : Oe w v l) (hl : l ≠ []) : ∃ g cap, v = .slice (some ⟨g, 0, none⟩) l.length cap ∧ l.length ≤ cap ∧ ∀ j, j < l.length → w.cell? ⟨g, j, none⟩ = some (.int .i64 (l.getD j 0)) := by
  rcases h.2 with ⟨rfl, h0⟩ | ⟨g, cap, cur, rfl, hb, hg, hn, hcm, hcs, ht⟩
  · exact absurd (List.eq_nil_of_length_eq_zero h0) hl
  · refine ⟨g, cap, rfl, hn, fun j hj => ?_⟩
    have := World.ownsRow.cellAt h j (by omega)
    rw [this]
    exact U_get l j hj
theorem one_new (w : World) (o : Obj) (x : Value) (t : TypeId) : ∀ j u, [x][j]? = some u → ((w.alloc o).alloc (.cells #[x] t)).cell? ((⟨w.heap.size + 1, 0, none⟩ : Addr).add j) = some u := by
  have h := cell_one_new (w.alloc o) x t
  have e : (w.alloc o).heap.size = w.heap.size + 1 := by simp
  rw [e] at h
  exact h
theorem info26 : (Try.prog.info? 26).map (fun i => (i.zero, i.size, i.bytes)) = some (some (.int .i64 0), 1, 8) := by kernel_rfl
set_option maxRecDepth 100000 in
set_option maxHeartbeats 32000000 in
theorem walkKnown (w : World) : Calls Try.prog 8 #[] w fun e w' => e = .returned (.bool true) ∧ Mod (fun _ => False) w w' := by
  have HK := key
  have hm : Mod (fun _ => False) w w := Mod.refl _ _
  go_enter Try.func8, Try.ntmps8
  go_wp2_with (fail)
  refine (Rings_at 1 (by decide +kernel) _).mono ?_
  rintro e x1 ⟨rfl, hn⟩
  replace hm := (hm).and hn
  clear hn
  go_wp2_with (fail)
  refine (Rings_at (-1) (by decide +kernel) _).mono ?_
  rintro e x2 ⟨rfl, hn⟩
  replace hm := (hm).and hn
  clear hn
  go_wp2_with (fail)
  refine (Rings_at 0 (by decide +kernel) _).mono ?_
  rintro e x3 ⟨rfl, hn⟩
  replace hm := (hm).and hn
  clear hn
  go_wp2_with (fail)
  refine (HK _ _ _ _ _).mono ?_
  rintro e x4 ⟨rfl, hn⟩
  replace hm := (hm).and hn
  clear hn
  go_wp2_with (fail)
  refine (HK _ _ _ _ _).mono ?_
  rintro e x5 ⟨rfl, hn⟩
  replace hm := (hm).and hn
  clear hn
  go_wp2_with (fail)
  refine (Keys_at (-1) (by decide +kernel) _).mono ?_
  rintro e x6 ⟨rfl, hn⟩
  replace hm := (hm).and hn
  clear hn
  go_wp2_with (fail)
  refine (Rings_at 1 (by decide +kernel) _).mono ?_
  rintro e x7 ⟨rfl, hn⟩
  replace hm := (hm).and hn
  clear hn
  go_wp2_with (fail)
  refine (HK _ _ _ _ _).mono ?_
  rintro e x8 ⟨rfl, hn⟩
  replace hm := (hm).and hn
  clear hn
  go_wp2_with (fail)
  refine (HK _ _ _ _ _).mono ?_
  rintro e x9 ⟨rfl, hn⟩
  replace hm := (hm).and hn
  clear hn
  go_wp2_with (fail)
  refine (Keys_at (-1) (by decide +kernel) _).mono ?_
  rintro e x10 ⟨rfl, hn⟩
  replace hm := (hm).and hn
  clear hn
  go_wp2
  generalize hw0 : x10.alloc (.cells #[.int .i64 0, .int .i64 1, .int .i64 1, .int .i64 0, .int .i64 1, .int .i64 9, .int .i64 (-1), .int .i64 1, .int .i64 9007199254740992, .int .i64 1, .int .i64 1, .int .i64 (-1)] 23) = w0
  have HM0 : Hid (Mod (fun _ => False) w w0) := by rw [← hw0]; exact hm.alloc _
  have A0 : Hid (w0.cell? ⟨x10.heap.size, 0, none⟩ = some (.int .i64 0)) := by rw [← hw0]; simp [Hid, go_sem]
  have A1 : Hid (w0.cell? ⟨x10.heap.size, 1, none⟩ = some (.int .i64 1)) := by rw [← hw0]; simp [Hid, go_sem]
  have A2 : Hid (w0.cell? ⟨x10.heap.size, 2, none⟩ = some (.int .i64 1)) := by rw [← hw0]; simp [Hid, go_sem]
  have A3 : Hid (w0.cell? ⟨x10.heap.size, 3, none⟩ = some (.int .i64 0)) := by rw [← hw0]; simp [Hid, go_sem]
  have A4 : Hid (w0.cell? ⟨x10.heap.size, 4, none⟩ = some (.int .i64 1)) := by rw [← hw0]; simp [Hid, go_sem]
  have A5 : Hid (w0.cell? ⟨x10.heap.size, 5, none⟩ = some (.int .i64 9)) := by rw [← hw0]; simp [Hid, go_sem]
  have A6 : Hid (w0.cell? ⟨x10.heap.size, 6, none⟩ = some (.int .i64 (-1))) := by rw [← hw0]; simp [Hid, go_sem]
  have A7 : Hid (w0.cell? ⟨x10.heap.size, 7, none⟩ = some (.int .i64 1)) := by rw [← hw0]; simp [Hid, go_sem]
  have A8 : Hid (w0.cell? ⟨x10.heap.size, 8, none⟩ = some (.int .i64 9007199254740992)) := by rw [← hw0]; simp [Hid, go_sem]
  have A9 : Hid (w0.cell? ⟨x10.heap.size, 9, none⟩ = some (.int .i64 1)) := by rw [← hw0]; simp [Hid, go_sem]
  have A10 : Hid (w0.cell? ⟨x10.heap.size, 10, none⟩ = some (.int .i64 1)) := by rw [← hw0]; simp [Hid, go_sem]
  have A11 : Hid (w0.cell? ⟨x10.heap.size, 11, none⟩ = some (.int .i64 (-1))) := by rw [← hw0]; simp [Hid, go_sem]
  generalize x10.heap.size = b1 at *
  clear hw0 hm
  go_loopw [65] (fun i wr => ∃ k : Nat, i = .int .i64 k ∧ k ≤ 6 ∧ Mod (fun _ => False) w0 wr) (fun i _ => 6 - (intOf i).toNat)
  case atStart => exact ⟨0, rfl, by omega, Mod.refl _ _⟩
  case round =>
    obtain ⟨k, rfl, hk, hm⟩ := hrel
    rcases (show k = 0 ∨ k = 1 ∨ k = 2 ∨ k = 3 ∨ k = 4 ∨ k = 5 ∨ k = 6 by omega) with rfl | rfl | rfl | rfl | rfl | rfl | rfl
    · have c0 := hm.cell A0.out (fun h => h)
      have c1 := hm.cell A1.out (fun h => h)
      go_wp2_with (fail)
      refine (CheckRing_at 2 (by decide +kernel) _).mono ?_
      rintro e y1 ⟨rfl, hn⟩
      have d0 : y1.cell? ⟨wr.heap.size, 0, none⟩ = some (.int .i64 0) := hn.cell (by simp [go_sem]) (fun h => h)
      have d1 : y1.cell? ⟨wr.heap.size, 1, none⟩ = some (.int .i64 1) := hn.cell (by simp [go_sem]) (fun h => h)
      replace hm := (hm.alloc _).and hn
      clear hn c0 c1
      go_wp2_with (fail)
      refine (Check_at 2 (by decide +kernel) _).mono ?_
      rintro e y2 ⟨rfl, hn⟩
      replace hm := hm.and hn
      clear hn d0 d1
      go_wp2
      go_roundw
      case rel => exact ⟨1, by go_num, by omega, hm⟩
      case measure => simp [intOf]
    · have c0 := hm.cell A2.out (fun h => h)
      have c1 := hm.cell A3.out (fun h => h)
      go_wp2_with (fail)
      refine (CheckRing_at 2 (by decide +kernel) _).mono ?_
      rintro e y1 ⟨rfl, hn⟩
      have d0 : y1.cell? ⟨wr.heap.size, 0, none⟩ = some (.int .i64 1) := hn.cell (by simp [go_sem]) (fun h => h)
      have d1 : y1.cell? ⟨wr.heap.size, 1, none⟩ = some (.int .i64 0) := hn.cell (by simp [go_sem]) (fun h => h)
      replace hm := (hm.alloc _).and hn
      clear hn c0 c1
      go_wp2_with (fail)
      refine (Check_at 2 (by decide +kernel) _).mono ?_
      rintro e y2 ⟨rfl, hn⟩
      replace hm := hm.and hn
      clear hn d0 d1
      go_wp2
      go_roundw
      case rel => exact ⟨2, by go_num, by omega, hm⟩
      case measure => simp [intOf]
    · have c0 := hm.cell A4.out (fun h => h)
      have c1 := hm.cell A5.out (fun h => h)
      go_wp2_with (fail)
      refine (CheckRing_at 2 (by decide +kernel) _).mono ?_
      rintro e y1 ⟨rfl, hn⟩
      have d0 : y1.cell? ⟨wr.heap.size, 0, none⟩ = some (.int .i64 1) := hn.cell (by simp [go_sem]) (fun h => h)
      have d1 : y1.cell? ⟨wr.heap.size, 1, none⟩ = some (.int .i64 9) := hn.cell (by simp [go_sem]) (fun h => h)
      replace hm := (hm.alloc _).and hn
      clear hn c0 c1
      go_wp2_with (fail)
      refine (Check_at 2 (by decide +kernel) _).mono ?_
      rintro e y2 ⟨rfl, hn⟩
      replace hm := hm.and hn
      clear hn d0 d1
      go_wp2
      go_roundw
      case rel => exact ⟨3, by go_num, by omega, hm⟩
      case measure => simp [intOf]
    · have c0 := hm.cell A6.out (fun h => h)
      have c1 := hm.cell A7.out (fun h => h)
      go_wp2_with (fail)
      refine (CheckRing_at 2 (by decide +kernel) _).mono ?_
      rintro e y1 ⟨rfl, hn⟩
      have d0 : y1.cell? ⟨wr.heap.size, 0, none⟩ = some (.int .i64 (-1)) := hn.cell (by simp [go_sem]) (fun h => h)
      have d1 : y1.cell? ⟨wr.heap.size, 1, none⟩ = some (.int .i64 1) := hn.cell (by simp [go_sem]) (fun h => h)
      replace hm := (hm.alloc _).and hn
      clear hn c0 c1
      go_wp2_with (fail)
      refine (Check_at 2 (by decide +kernel) _).mono ?_
      rintro e y2 ⟨rfl, hn⟩
      replace hm := hm.and hn
      clear hn d0 d1
      go_wp2
      go_roundw
      case rel => exact ⟨4, by go_num, by omega, hm⟩
      case measure => simp [intOf]
    · have c0 := hm.cell A8.out (fun h => h)
      have c1 := hm.cell A9.out (fun h => h)
      go_wp2_with (fail)
      refine (CheckRing_at 2 (by decide +kernel) _).mono ?_
      rintro e y1 ⟨rfl, hn⟩
      have d0 : y1.cell? ⟨wr.heap.size, 0, none⟩ = some (.int .i64 9007199254740992) := hn.cell (by simp [go_sem]) (fun h => h)
      have d1 : y1.cell? ⟨wr.heap.size, 1, none⟩ = some (.int .i64 1) := hn.cell (by simp [go_sem]) (fun h => h)
      replace hm := (hm.alloc _).and hn
      clear hn c0 c1
      go_wp2_with (fail)
      refine (Check_at 2 (by decide +kernel) _).mono ?_
      rintro e y2 ⟨rfl, hn⟩
      replace hm := hm.and hn
      clear hn d0 d1
      go_wp2
      go_roundw
      case rel => exact ⟨5, by go_num, by omega, hm⟩
      case measure => simp [intOf]
    · have c0 := hm.cell A10.out (fun h => h)
      have c1 := hm.cell A11.out (fun h => h)
      go_wp2_with (fail)
      refine (CheckRing_at 2 (by decide +kernel) _).mono ?_
      rintro e y1 ⟨rfl, hn⟩
      have d0 : y1.cell? ⟨wr.heap.size, 0, none⟩ = some (.int .i64 1) := hn.cell (by simp [go_sem]) (fun h => h)
      have d1 : y1.cell? ⟨wr.heap.size, 1, none⟩ = some (.int .i64 (-1)) := hn.cell (by simp [go_sem]) (fun h => h)
      replace hm := (hm.alloc _).and hn
      clear hn c0 c1
      go_wp2_with (fail)
      refine (Check_at 2 (by decide +kernel) _).mono ?_
      rintro e y2 ⟨rfl, hn⟩
      replace hm := hm.and hn
      clear hn d0 d1
      go_wp2
      go_roundw
      case rel => exact ⟨6, by go_num, by omega, hm⟩
      case measure => simp [intOf]
    · replace hm := HM0.out.and hm
      clear HM0 A0 A1 A2 A3 A4 A5 A6 A7 A8 A9 A10 A11
      go_wp2_with (fail)
      refine (CheckRing_at 0 (by decide +kernel) _).mono ?_
      rintro e x11 ⟨rfl, hn⟩
      replace hm := (hm).and hn
      clear hn
      go_wp2_with (fail)
      refine (CheckRing_at 0 (by decide +kernel) _).mono ?_
      rintro e x12 ⟨rfl, hn⟩
      replace hm := (hm).and hn
      clear hn
      go_wp2_with (fail)
      refine (HK _ _ _ _ _).mono ?_
      rintro e x13 ⟨rfl, hn⟩
      replace hm := (hm).and hn
      clear hn
      go_wp2_with (fail)
      refine (Check_at 2 (by decide +kernel) _).mono ?_
      rintro e x14 ⟨rfl, hn⟩
      replace hm := (hm).and hn
      clear hn
      go_wp2_with (fail)
      refine (HK _ _ _ _ _).mono ?_
      rintro e x15 ⟨rfl, hn⟩
      replace hm := (hm).and hn
      clear hn
      go_wp2_with (fail)
      refine (Check_at 2 (by decide +kernel) _).mono ?_
      rintro e x16 ⟨rfl, hn⟩
      replace hm := (hm).and hn
      clear hn
      go_wp2_with (fail)
      refine (HK _ _ _ _ _).mono ?_
      rintro e x17 ⟨rfl, hn⟩
      replace hm := (hm).and hn
      clear hn
      go_wp2_with (fail)
      refine (Check_at 0 (by decide +kernel) _).mono ?_
      rintro e x18 ⟨rfl, hn⟩
      replace hm := (hm).and hn
      clear hn
      go_wp2_with (fail)
      refine (HK _ _ _ _ _).mono ?_
      rintro e x19 ⟨rfl, hn⟩
      replace hm := (hm).and hn
      clear hn
      go_wp2_with (fail)
      refine (Check_at 2 (by decide +kernel) _).mono ?_
      rintro e x20 ⟨rfl, hn⟩
      replace hm := (hm).and hn
      clear hn
      go_wp2_with (fail)
      refine (HK _ _ _ _ _).mono ?_
      rintro e x21 ⟨rfl, hn⟩
      replace hm := (hm).and hn
      clear hn
      go_wp2_with (fail)
      refine (Check_at 2 (by decide +kernel) _).mono ?_
      rintro e x22 ⟨rfl, hn⟩
      replace hm := (hm).and hn
      clear hn
      go_wp2_with (fail)
      refine (HK _ _ _ _ _).mono ?_
      rintro e x23 ⟨rfl, hn⟩
      replace hm := (hm).and hn
      clear hn
      go_wp2_with (fail)
      refine (HK _ _ _ _ _).mono ?_
      rintro e x24 ⟨rfl, hn⟩
      replace hm := (hm).and hn
      clear hn
      go_wp2_with (fail)
      refine (HK _ _ _ _ _).mono ?_
      rintro e x25 ⟨rfl, hn⟩
      replace hm := (hm).and hn
      clear hn
      go_wp2_with (fail)
      refine (HK _ _ _ _ _).mono ?_
      rintro e x26 ⟨rfl, hn⟩
      replace hm := (hm).and hn
      clear hn
      go_wp2_with (fail)
      refine (HK _ _ _ _ _).mono ?_
      rintro e x27 ⟨rfl, hn⟩
      replace hm := (hm).and hn
      clear hn
      go_wp2
      generalize hw1 : x27.alloc (.cells #[.int .i64 1099511627776, .int .i64 0, .int .i64 0, .int .i64 0, .int .i64 0, .int .i64 1099511627776, .int .i64 1, .int .i64 0, .int .i64 0, .int .i64 0, .int .i64 0, .int .i64 68719476736, .int .i64 1099511627775, .int .i64 1099511627775, .int .i64 8, .int .i64 68719476735, .int .i64 1099511627776, .int .i64 0, .int .i64 1, .int .i64 0, .int .i64 0, .int .i64 0, .int .i64 0, .int .i64 0] 25) = w1
      have HM1 : Hid (Mod (fun _ => False) w w1) := by rw [← hw1]; exact hm.alloc _
      have B0 : Hid (w1.cell? ⟨x27.heap.size, 0, none⟩ = some (.int .i64 1099511627776)) := by rw [← hw1]; simp [Hid, go_sem]
      have B1 : Hid (w1.cell? ⟨x27.heap.size, 1, none⟩ = some (.int .i64 0)) := by rw [← hw1]; simp [Hid, go_sem]
      have B2 : Hid (w1.cell? ⟨x27.heap.size, 2, none⟩ = some (.int .i64 0)) := by rw [← hw1]; simp [Hid, go_sem]
      have B3 : Hid (w1.cell? ⟨x27.heap.size, 3, none⟩ = some (.int .i64 0)) := by rw [← hw1]; simp [Hid, go_sem]
      have B4 : Hid (w1.cell? ⟨x27.heap.size, 4, none⟩ = some (.int .i64 0)) := by rw [← hw1]; simp [Hid, go_sem]
      have B5 : Hid (w1.cell? ⟨x27.heap.size, 5, none⟩ = some (.int .i64 1099511627776)) := by rw [← hw1]; simp [Hid, go_sem]
      have B6 : Hid (w1.cell? ⟨x27.heap.size, 6, none⟩ = some (.int .i64 1)) := by rw [← hw1]; simp [Hid, go_sem]
      have B7 : Hid (w1.cell? ⟨x27.heap.size, 7, none⟩ = some (.int .i64 0)) := by rw [← hw1]; simp [Hid, go_sem]
      have B8 : Hid (w1.cell? ⟨x27.heap.size, 8, none⟩ = some (.int .i64 0)) := by rw [← hw1]; simp [Hid, go_sem]
      have B9 : Hid (w1.cell? ⟨x27.heap.size, 9, none⟩ = some (.int .i64 0)) := by rw [← hw1]; simp [Hid, go_sem]
      have B10 : Hid (w1.cell? ⟨x27.heap.size, 10, none⟩ = some (.int .i64 0)) := by rw [← hw1]; simp [Hid, go_sem]
      have B11 : Hid (w1.cell? ⟨x27.heap.size, 11, none⟩ = some (.int .i64 68719476736)) := by rw [← hw1]; simp [Hid, go_sem]
      have B12 : Hid (w1.cell? ⟨x27.heap.size, 12, none⟩ = some (.int .i64 1099511627775)) := by rw [← hw1]; simp [Hid, go_sem]
      have B13 : Hid (w1.cell? ⟨x27.heap.size, 13, none⟩ = some (.int .i64 1099511627775)) := by rw [← hw1]; simp [Hid, go_sem]
      have B14 : Hid (w1.cell? ⟨x27.heap.size, 14, none⟩ = some (.int .i64 8)) := by rw [← hw1]; simp [Hid, go_sem]
      have B15 : Hid (w1.cell? ⟨x27.heap.size, 15, none⟩ = some (.int .i64 68719476735)) := by rw [← hw1]; simp [Hid, go_sem]
      have B16 : Hid (w1.cell? ⟨x27.heap.size, 16, none⟩ = some (.int .i64 1099511627776)) := by rw [← hw1]; simp [Hid, go_sem]
      have B17 : Hid (w1.cell? ⟨x27.heap.size, 17, none⟩ = some (.int .i64 0)) := by rw [← hw1]; simp [Hid, go_sem]
      have B18 : Hid (w1.cell? ⟨x27.heap.size, 18, none⟩ = some (.int .i64 1)) := by rw [← hw1]; simp [Hid, go_sem]
      have B19 : Hid (w1.cell? ⟨x27.heap.size, 19, none⟩ = some (.int .i64 0)) := by rw [← hw1]; simp [Hid, go_sem]
      have B20 : Hid (w1.cell? ⟨x27.heap.size, 20, none⟩ = some (.int .i64 0)) := by rw [← hw1]; simp [Hid, go_sem]
      have B21 : Hid (w1.cell? ⟨x27.heap.size, 21, none⟩ = some (.int .i64 0)) := by rw [← hw1]; simp [Hid, go_sem]
      have B22 : Hid (w1.cell? ⟨x27.heap.size, 22, none⟩ = some (.int .i64 0)) := by rw [← hw1]; simp [Hid, go_sem]
      have B23 : Hid (w1.cell? ⟨x27.heap.size, 23, none⟩ = some (.int .i64 0)) := by rw [← hw1]; simp [Hid, go_sem]
      generalize x27.heap.size = b2 at *
      clear hw1 hm hk
      obtain ⟨i0, hi, hz0, hz1, hz2⟩ := info_parts info26
      go_loopw [5, 120] (fun s i wr => ∃ k : Nat, i = .int .i64 k ∧ k ≤ 6 ∧ Hid (Oe wr s (List.take k [9, 9, 9, 0, 2, 0])) ∧ Hid (New w1 s) ∧ Mod (fun _ => False) w1 wr) (fun _ i _ => 6 - (intOf i).toNat)
      case atStart => exact ⟨0, rfl, by omega, World.ownsRow_nil _ _ _ _, fun g hg => by simp [Value.ownBlock] at hg, Mod.refl _ _⟩
      case round =>
        obtain ⟨k, rfl, hk, hown, hnew, hm⟩ := hrel
        rcases (show k = 0 ∨ k = 1 ∨ k = 2 ∨ k = 3 ∨ k = 4 ∨ k = 5 ∨ k = 6 by omega) with rfl | rfl | rfl | rfl | rfl | rfl | rfl
        · have c0 := hm.cell B0.out (fun h => h)
          have c1 := hm.cell B1.out (fun h => h)
          have c2 := hm.cell B2.out (fun h => h)
          have c3 := hm.cell B3.out (fun h => h)
          have ho0 : Hid (Oe wr u5 []) := hown
          clear hown
          go_wp2_with (fail)
          refine (Pack_at 0 0 9 (by decide +kernel) (by decide +kernel) (by decide +kernel) _).mono ?_
          rintro e y1 ⟨rfl, hn⟩
          have ho1 : Hid (Oe y1 u5 []) := (ho0.out.alloc _).mod hn
          replace hm := (hm.alloc _).and hn
          clear hn c0 c1 c2 c3 ho0
          go_wp2_with (at_builtin; refine wpList_append_lies _ rfl _ _ 47 rfl 0 26 i0 (.int .i64 0) 1 8 Try.underlying47 hi hz0 hz1 hz2 rfl (by decide) u5 0 (U []) rfl ((ho1.out.alloc _).alloc _) ⟨y1.heap.size + 1, 0, none⟩ 1 1 [.int .i64 9] rfl rfl (one_new _ _ _ _) (U_one [9]) (by omega) (by unfold maxLen; omega) (by omega) (Nat.zero_le _) (y1.heap.size + 1 + 1) (by simp) ?_; intro g cap1 w3 hown1 hgrow hg hlt)
          have R := Oe.one (l' := []) (hm.alloc _) hnew.out hown1 hgrow (by simpa using hg)
          go_roundw
          case rel => exact ⟨1, by go_num, by omega, R.1, R.2.2, R.2.1⟩
          case measure => simp [intOf]
        · have c0 := hm.cell B4.out (fun h => h)
          have c1 := hm.cell B5.out (fun h => h)
          have c2 := hm.cell B6.out (fun h => h)
          have c3 := hm.cell B7.out (fun h => h)
          have ho0 : Hid (Oe wr u5 [9]) := hown
          clear hown
          go_wp2_with (fail)
          refine (Pack_at 0 0 9 (by decide +kernel) (by decide +kernel) (by decide +kernel) _).mono ?_
          rintro e y1 ⟨rfl, hn⟩
          have ho1 : Hid (Oe y1 u5 [9]) := (ho0.out.alloc _).mod hn
          replace hm := (hm.alloc _).and hn
          clear hn c0 c1 c2 c3 ho0
          go_wp2_with (at_builtin; refine wpList_append_lies _ rfl _ _ 47 rfl 0 26 i0 (.int .i64 0) 1 8 Try.underlying47 hi hz0 hz1 hz2 rfl (by decide) u5 1 (U [9]) rfl ((ho1.out.alloc _).alloc _) ⟨y1.heap.size + 1, 0, none⟩ 1 1 [.int .i64 9] rfl rfl (one_new _ _ _ _) (U_one [9]) (by omega) (by unfold maxLen; omega) (by omega) (Nat.zero_le _) (y1.heap.size + 1 + 1) (by simp) ?_; intro g cap1 w3 hown1 hgrow hg hlt)
          have R := Oe.one (l' := [9]) (hm.alloc _) hnew.out hown1 hgrow (by simpa using hg)
          go_roundw
          case rel => exact ⟨2, by go_num, by omega, R.1, R.2.2, R.2.1⟩
          case measure => simp [intOf]
        · have c0 := hm.cell B8.out (fun h => h)
          have c1 := hm.cell B9.out (fun h => h)
          have c2 := hm.cell B10.out (fun h => h)
          have c3 := hm.cell B11.out (fun h => h)
          have ho0 : Hid (Oe wr u5 [9, 9]) := hown
          clear hown
          go_wp2_with (fail)
          refine (Pack_at 0 0 9 (by decide +kernel) (by decide +kernel) (by decide +kernel) _).mono ?_
          rintro e y1 ⟨rfl, hn⟩
          have ho1 : Hid (Oe y1 u5 [9, 9]) := (ho0.out.alloc _).mod hn
          replace hm := (hm.alloc _).and hn
          clear hn c0 c1 c2 c3 ho0
          go_wp2_with (at_builtin; refine wpList_append_lies _ rfl _ _ 47 rfl 0 26 i0 (.int .i64 0) 1 8 Try.underlying47 hi hz0 hz1 hz2 rfl (by decide) u5 2 (U [9, 9]) rfl ((ho1.out.alloc _).alloc _) ⟨y1.heap.size + 1, 0, none⟩ 1 1 [.int .i64 9] rfl rfl (one_new _ _ _ _) (U_one [9]) (by omega) (by unfold maxLen; omega) (by omega) (Nat.zero_le _) (y1.heap.size + 1 + 1) (by simp) ?_; intro g cap1 w3 hown1 hgrow hg hlt)
          have R := Oe.one (l' := [9, 9]) (hm.alloc _) hnew.out hown1 hgrow (by simpa using hg)
          go_roundw
          case rel => exact ⟨3, by go_num, by omega, R.1, R.2.2, R.2.1⟩
          case measure => simp [intOf]
        · have c0 := hm.cell B12.out (fun h => h)
          have c1 := hm.cell B13.out (fun h => h)
          have c2 := hm.cell B14.out (fun h => h)
          have c3 := hm.cell B15.out (fun h => h)
          have ho0 : Hid (Oe wr u5 [9, 9, 9]) := hown
          clear hown
          go_wp2_with (fail)
          refine (Pack_at 72057594037927935 18446743592673214463 0 (by decide +kernel) (by decide +kernel) (by decide +kernel) _).mono ?_
          rintro e y1 ⟨rfl, hn⟩
          have ho1 : Hid (Oe y1 u5 [9, 9, 9]) := (ho0.out.alloc _).mod hn
          replace hm := (hm.alloc _).and hn
          clear hn c0 c1 c2 c3 ho0
          go_wp2_with (at_builtin; refine wpList_append_lies _ rfl _ _ 47 rfl 0 26 i0 (.int .i64 0) 1 8 Try.underlying47 hi hz0 hz1 hz2 rfl (by decide) u5 3 (U [9, 9, 9]) rfl ((ho1.out.alloc _).alloc _) ⟨y1.heap.size + 1, 0, none⟩ 1 1 [.int .i64 0] rfl rfl (one_new _ _ _ _) (U_one [0]) (by omega) (by unfold maxLen; omega) (by omega) (Nat.zero_le _) (y1.heap.size + 1 + 1) (by simp) ?_; intro g cap1 w3 hown1 hgrow hg hlt)
          have R := Oe.one (l' := [9, 9, 9]) (hm.alloc _) hnew.out hown1 hgrow (by simpa using hg)
          go_roundw
          case rel => exact ⟨4, by go_num, by omega, R.1, R.2.2, R.2.1⟩
          case measure => simp [intOf]
        · have c0 := hm.cell B16.out (fun h => h)
          have c1 := hm.cell B17.out (fun h => h)
          have c2 := hm.cell B18.out (fun h => h)
          have c3 := hm.cell B19.out (fun h => h)
          have ho0 : Hid (Oe wr u5 [9, 9, 9, 0]) := hown
          clear hown
          go_wp2_with (fail)
          refine (Pack_at 0 0 2 (by decide +kernel) (by decide +kernel) (by decide +kernel) _).mono ?_
          rintro e y1 ⟨rfl, hn⟩
          have ho1 : Hid (Oe y1 u5 [9, 9, 9, 0]) := (ho0.out.alloc _).mod hn
          replace hm := (hm.alloc _).and hn
          clear hn c0 c1 c2 c3 ho0
          go_wp2_with (at_builtin; refine wpList_append_lies _ rfl _ _ 47 rfl 0 26 i0 (.int .i64 0) 1 8 Try.underlying47 hi hz0 hz1 hz2 rfl (by decide) u5 4 (U [9, 9, 9, 0]) rfl ((ho1.out.alloc _).alloc _) ⟨y1.heap.size + 1, 0, none⟩ 1 1 [.int .i64 2] rfl rfl (one_new _ _ _ _) (U_one [2]) (by omega) (by unfold maxLen; omega) (by omega) (Nat.zero_le _) (y1.heap.size + 1 + 1) (by simp) ?_; intro g cap1 w3 hown1 hgrow hg hlt)
          have R := Oe.one (l' := [9, 9, 9, 0]) (hm.alloc _) hnew.out hown1 hgrow (by simpa using hg)
          go_roundw
          case rel => exact ⟨5, by go_num, by omega, R.1, R.2.2, R.2.1⟩
          case measure => simp [intOf]
        · have c0 := hm.cell B20.out (fun h => h)
          have c1 := hm.cell B21.out (fun h => h)
          have c2 := hm.cell B22.out (fun h => h)
          have c3 := hm.cell B23.out (fun h => h)
          have ho0 : Hid (Oe wr u5 [9, 9, 9, 0, 2]) := hown
          clear hown
          go_wp2_with (fail)
          refine (Pack_at 0 0 0 (by decide +kernel) (by decide +kernel) (by decide +kernel) _).mono ?_
          rintro e y1 ⟨rfl, hn⟩
          have ho1 : Hid (Oe y1 u5 [9, 9, 9, 0, 2]) := (ho0.out.alloc _).mod hn
          replace hm := (hm.alloc _).and hn
          clear hn c0 c1 c2 c3 ho0
          go_wp2_with (at_builtin; refine wpList_append_lies _ rfl _ _ 47 rfl 0 26 i0 (.int .i64 0) 1 8 Try.underlying47 hi hz0 hz1 hz2 rfl (by decide) u5 5 (U [9, 9, 9, 0, 2]) rfl ((ho1.out.alloc _).alloc _) ⟨y1.heap.size + 1, 0, none⟩ 1 1 [.int .i64 0] rfl rfl (one_new _ _ _ _) (U_one [0]) (by omega) (by unfold maxLen; omega) (by omega) (Nat.zero_le _) (y1.heap.size + 1 + 1) (by simp) ?_; intro g cap1 w3 hown1 hgrow hg hlt)
          have R := Oe.one (l' := [9, 9, 9, 0, 2]) (hm.alloc _) hnew.out hown1 hgrow (by simpa using hg)
          go_roundw
          case rel => exact ⟨6, by go_num, by omega, R.1, R.2.2, R.2.1⟩
          case measure => simp [intOf]
        · replace hm := HM1.out.and hm
          have ho0 : Oe wr u5 [9, 9, 9, 0, 2, 0] := hown.out
          obtain ⟨g, cap, rfl, hcap, hc⟩ := ho0.at (by simp)
          have g0 : wr.cell? ⟨g, 0, none⟩ = some (.int .i64 9) := hc 0 (by simp)
          have g1 : wr.cell? ⟨g, 1, none⟩ = some (.int .i64 9) := hc 1 (by simp)
          have g2 : wr.cell? ⟨g, 2, none⟩ = some (.int .i64 9) := hc 2 (by simp)
          have g3 : wr.cell? ⟨g, 3, none⟩ = some (.int .i64 0) := hc 3 (by simp)
          have g4 : wr.cell? ⟨g, 4, none⟩ = some (.int .i64 2) := hc 4 (by simp)
          have g5 : wr.cell? ⟨g, 5, none⟩ = some (.int .i64 0) := hc 5 (by simp)
          clear hown ho0 hnew hc HM1 B0 B1 B2 B3 B4 B5 B6 B7 B8 B9 B10 B11 B12 B13 B14 B15 B16 B17 B18 B19 B20 B21 B22 B23
          go_wp2_with (fail)
          refine (HK _ _ _ _ _).mono ?_
          rintro e x28 ⟨rfl, hn⟩
          replace hm := (hm).and hn
          clear hn
          go_wp2_with (fail)
          refine (Pack_at 72057594037927935 18446743592673214463 0 (by decide +kernel) (by decide +kernel) (by decide +kernel) _).mono ?_
          rintro e x29 ⟨rfl, hn⟩
          replace hm := (hm).and hn
          clear hn
          have p0 : (x29.alloc (.cells #[.int .u64 72057594037927935, .int .u64 18446743592673214463] 34)).cell? ⟨x29.heap.size, 0, none⟩ = some (.int .u64 72057594037927935) := by simp [go_sem]
          have p1 : (x29.alloc (.cells #[.int .u64 72057594037927935, .int .u64 18446743592673214463] 34)).cell? ⟨x29.heap.size, 1, none⟩ = some (.int .u64 18446743592673214463) := by simp [go_sem]
          go_wp2_with (fail)
          refine (Unpack_at 0 0 0 0 2 (by omega) (by omega) (by decide +kernel) (by decide +kernel) (by decide +kernel) (by decide +kernel) (by decide +kernel) _).mono ?_
          rintro e x30 ⟨rfl, hn⟩
          replace hm := (hm.alloc _).and hn
          replace p0 : x30.cell? ⟨x29.heap.size, 0, none⟩ = some (.int .u64 72057594037927935) := hn.cell p0 (fun h => h)
          replace p1 : x30.cell? ⟨x29.heap.size, 1, none⟩ = some (.int .u64 18446743592673214463) := hn.cell p1 (fun h => h)
          replace p0 := fun o => ((Mod.refl (fun _ => False) x30).alloc o).cell p0 (fun h => h)
          replace p1 := fun o => ((Mod.refl (fun _ => False) x30).alloc o).cell p1 (fun h => h)
          clear hn
          go_wp2_with (fail)
          refine (Unpack_at 0 0 0 0 2 (by omega) (by omega) (by decide +kernel) (by decide +kernel) (by decide +kernel) (by decide +kernel) (by decide +kernel) _).mono ?_
          rintro e x31 ⟨rfl, hn⟩
          replace hm := (hm.alloc _).and hn
          replace p0 : x31.cell? ⟨x29.heap.size, 0, none⟩ = some (.int .u64 72057594037927935) := hn.cell (p0 _) (fun h => h)
          replace p1 : x31.cell? ⟨x29.heap.size, 1, none⟩ = some (.int .u64 18446743592673214463) := hn.cell (p1 _) (fun h => h)
          replace p0 := fun o => ((Mod.refl (fun _ => False) x31).alloc o).cell p0 (fun h => h)
          replace p1 := fun o => ((Mod.refl (fun _ => False) x31).alloc o).cell p1 (fun h => h)
          clear hn
          go_wp2_with (fail)
          refine (Unpack_at 0 0 0 0 2 (by omega) (by omega) (by decide +kernel) (by decide +kernel) (by decide +kernel) (by decide +kernel) (by decide +kernel) _).mono ?_
          rintro e x32 ⟨rfl, hn⟩
          replace hm := (hm.alloc _).and hn
          replace p0 : x32.cell? ⟨x29.heap.size, 0, none⟩ = some (.int .u64 72057594037927935) := hn.cell (p0 _) (fun h => h)
          replace p1 : x32.cell? ⟨x29.heap.size, 1, none⟩ = some (.int .u64 18446743592673214463) := hn.cell (p1 _) (fun h => h)
          replace p0 := fun o => ((Mod.refl (fun _ => False) x32).alloc o).cell p0 (fun h => h)
          replace p1 := fun o => ((Mod.refl (fun _ => False) x32).alloc o).cell p1 (fun h => h)
          clear hn
          go_wp2_with (fail)
          refine (Unpack_at 0 0 0 0 2 (by omega) (by omega) (by decide +kernel) (by decide +kernel) (by decide +kernel) (by decide +kernel) (by decide +kernel) _).mono ?_
          rintro e x33 ⟨rfl, hn⟩
          replace hm := (hm.alloc _).and hn
          replace p0 : x33.cell? ⟨x29.heap.size, 0, none⟩ = some (.int .u64 72057594037927935) := hn.cell (p0 _) (fun h => h)
          replace p1 : x33.cell? ⟨x29.heap.size, 1, none⟩ = some (.int .u64 18446743592673214463) := hn.cell (p1 _) (fun h => h)
          replace p0 := fun o => ((Mod.refl (fun _ => False) x33).alloc o).cell p0 (fun h => h)
          replace p1 := fun o => ((Mod.refl (fun _ => False) x33).alloc o).cell p1 (fun h => h)
          clear hn
          go_wp2_with (fail)
          refine (Unpack_at 1 1 1 7 0 (by omega) (by omega) (by decide +kernel) (by decide +kernel) (by decide +kernel) (by decide +kernel) (by decide +kernel) _).mono ?_
          rintro e x34 ⟨rfl, hn⟩
          replace hm := (hm.alloc _).and hn
          replace p0 : x34.cell? ⟨x29.heap.size, 0, none⟩ = some (.int .u64 72057594037927935) := hn.cell (p0 _) (fun h => h)
          replace p1 : x34.cell? ⟨x29.heap.size, 1, none⟩ = some (.int .u64 18446743592673214463) := hn.cell (p1 _) (fun h => h)
          replace p0 := fun o => ((Mod.refl (fun _ => False) x34).alloc o).cell p0 (fun h => h)
          replace p1 := fun o => ((Mod.refl (fun _ => False) x34).alloc o).cell p1 (fun h => h)
          clear hn
          go_wp2_with (fail)
          replace p0 := p0 (.cells #[.int .i64 1, .int .i64 1, .int .i64 1, .int .i64 7] 25)
          replace p1 := p1 (.cells #[.int .i64 1, .int .i64 1, .int .i64 1, .int .i64 7] 25)
          have k0 : (x34.alloc (.cells #[.int .i64 1, .int .i64 1, .int .i64 1, .int .i64 7] 25)).cell? ⟨x34.heap.size, 0, none⟩ = some (.int .i64 1) := by simp [go_sem]
          have k1 : (x34.alloc (.cells #[.int .i64 1, .int .i64 1, .int .i64 1, .int .i64 7] 25)).cell? ⟨x34.heap.size, 1, none⟩ = some (.int .i64 1) := by simp [go_sem]
          have k2 : (x34.alloc (.cells #[.int .i64 1, .int .i64 1, .int .i64 1, .int .i64 7] 25)).cell? ⟨x34.heap.size, 2, none⟩ = some (.int .i64 1) := by simp [go_sem]
          have k3 : (x34.alloc (.cells #[.int .i64 1, .int .i64 1, .int .i64 1, .int .i64 7] 25)).cell? ⟨x34.heap.size, 3, none⟩ = some (.int .i64 7) := by simp [go_sem]
          replace hm := (hm.alloc (.cells #[.int .i64 1, .int .i64 1, .int .i64 1, .int .i64 7] 25)).drew
          have HQ := keq34 72057594037927935 18446743592673214463
          have HR := keq25 1 1 1 7
          have HW := works
          go_region_held3 (fun y => y.cell? ⟨x29.heap.size, 0, none⟩ = some (.int .u64 72057594037927935) ∧ y.cell? ⟨x29.heap.size, 1, none⟩ = some (.int .u64 18446743592673214463) ∧ y.cell? ⟨x34.heap.size, 0, none⟩ = some (.int .i64 1) ∧ y.cell? ⟨x34.heap.size, 1, none⟩ = some (.int .i64 1) ∧ y.cell? ⟨x34.heap.size, 2, none⟩ = some (.int .i64 1) ∧ y.cell? ⟨x34.heap.size, 3, none⟩ = some (.int .i64 7)) (first | exact ⟨p0, p1, k0, k1, k2, k3⟩ | go_keep)
            (first | (go_at_call 17; refine (HW _).mono ?_; rintro e z1 ⟨rfl, hn⟩; replace p0 := hn.cell p0 (fun h => h); replace p1 := hn.cell p1 (fun h => h); replace k0 := hn.cell k0 (fun h => h); replace k1 := hn.cell k1 (fun h => h); replace k2 := hn.cell k2 (fun h => h); replace k3 := hn.cell k3 (fun h => h); replace hm := hm.and hn; clear hn) | (go_at_call 22; refine (HK _ _ _ _ _).mono ?_; rintro e z1 ⟨rfl, hn⟩; replace p0 := hn.cell p0 (fun h => h); replace p1 := hn.cell p1 (fun h => h); replace k0 := hn.cell k0 (fun h => h); replace k1 := hn.cell k1 (fun h => h); replace k2 := hn.cell k2 (fun h => h); replace k3 := hn.cell k3 (fun h => h); replace hm := hm.and hn; clear hn))
          go_wp2
          go_ret
          exact ⟨rfl, hm⟩
namespace markKnown
open Go.ChangeShapes Go.WideShapes Go.ChangeAt Go.RowKit
set_option maxRecDepth 100000 in
theorem lifted (os : Os) (started : os.Started) (H : Type) (enc : TypeId × Value → H) :
    ReturnsInHanded {} Try.checked os 8 .any (Rows.markKnownSpec.pre6 enc Try.prog Try.f8 Rows.markKnownRow.domain false) (Rows.markKnownSpec.post enc Try.prog Try.f8 false true false false) := by
  refine returnsInHanded_of_change (C := Try.checked) own started (by kernel_rfl) Try.func8
    (ChangeSpec.witness6 (enc := enc) (C := Try.checked) false ⟨#[], #[], []⟩ 8 (by kernel_rfl) (by kernel_rfl) (by kernel_rfl) (by kernel_rfl)) ?_
  intro W base args ds gs before hval0 hW hcnd _
  have hW' := hW
  obtain ⟨p, q, hA0, hV, rfl, hfz, hnd⟩ := hW
  have hA : DataW.TrodAll enc Try.prog W 0 (fun _ => true) true Try.f8.params.toList args.toList ds p := hA0
  rw [Try.params8] at hA
  obtain ⟨hargs, rfl, rfl⟩ := trodAll_nil hA
  obtain rfl : args = #[] := by cases args; simp_all
  obtain ⟨rfl, rfl⟩ := trodVars_none hV
  clear hA0 hval0
  refine (walkKnown W).mono fun e W' ⟨he, hm⟩ => ?_
  subst he
  have bel : Below W.heap.size W W' := hm.below _ (Nat.le_refl _) (fun _ h => h.elim)
  exact ⟨_, rfl, _, _, _, [], _, [], hW', trodAll_mk1 (shut_bool Try.underlying4 _), trodAll_mk0, rfl, bel.frame _, fun h => by cases h⟩

theorem over : Rows.markKnownRow.holds Try.pinned (OpenSpec.ofChange Rows.markKnownSpec) :=
  OpenClaim.holds_of_wide 8 Try.f8 rfl rfl rfl rfl rfl rfl rfl ⟨rfl, rfl, rfl, rfl, rfl⟩ rfl rfl rfl rfl rfl (by kernel_rfl) Try.func8 (by kernel_rfl)
    (of_decide_eq_true (by kernel_rfl)) (by unfold Func.isWrapper; first | (rw [if_pos (by decide +kernel)]; kernel_rfl) | (rw [if_neg (by decide +kernel)]; exact ⟨rfl, rfl⟩))
    (fun os started H enc _ => lifted os started H enc)
end markKnown
theorem markKnown_holds : Rows.MarkKnownSaid := markKnown.over
end Go.Proofs.Ytbfgnlpgfjokhaa
