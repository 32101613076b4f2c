/- A story as an argument; contract of Story's window. No conditions. -/
import Derived.Test.YtampdkbcijdpcaaBh
import Derived.Test.YtampdkbcijdpcaaYn
namespace Go.Proofs.Ytampdkbcijdpcaa
open Go.RowKit Go.Maps
section
open Go.ChangeShapes Go.WideShapes Go.ChangeAt
variable {H : Type} {enc : TypeId × Value → H} {W : World}
theorem trod_fld {P : Program} {w : World} {base : Nat} {spare : Nat → Bool} {held : Bool} {t : TypeId} {fs : Array Field} {fuel : Nat} {cs : List Value} {x : DataW H × List MemPlace} (ht : P.underlying t = some (.struct fs)) (h : DataW.trod enc P w base spare held fuel t cs = some x) :
    ∃ n, ∀ (i : Nat) (f : Field), fs[i]? = some f → ∃ y, DataW.trod enc P w base spare held n f.type ((cs.drop f.offset).take (P.cellsOf f.type)) = some y := by
  obtain ⟨xs, n, _, _, _, hlen, hf⟩ := DataW.trod_struct ht h
  refine ⟨n, fun i f hi => ?_⟩
  have hlt : i < xs.length := by rw [hlen]; exact (Array.getElem?_eq_some_iff.1 hi).1
  rw [hf i f hi, List.getElem?_eq_getElem hlt]
  exact ⟨_, rfl⟩
theorem trodS2 {P : Program} {w : World} {base : Nat} {spare : Nat → Bool} {held : Bool} {t : TypeId} {f0 f1 : Field} {fuel : Nat} {cs : List Value} {x : DataW H × List MemPlace} (ht : P.underlying t = some (.struct #[f0, f1])) (h : DataW.trod enc P w base spare held fuel t cs = some x) :
    ∃ y0 y1 n, DataW.trod enc P w base spare held n f0.type ((cs.drop f0.offset).take (P.cellsOf f0.type)) = some y0 ∧ DataW.trod enc P w base spare held n f1.type ((cs.drop f1.offset).take (P.cellsOf f1.type)) = some y1 := by
  obtain ⟨n, hf⟩ := trod_fld ht h
  obtain ⟨y0, t0⟩ := hf 0 f0 rfl
  obtain ⟨y1, t1⟩ := hf 1 f1 rfl
  exact ⟨y0, y1, n, t0, t1⟩
theorem int_cell {n : Nat} {c : Value} {y : DataW H × List MemPlace} (h : DataW.trod enc Try.prog W 0 (fun _ => true) true n 3 [c] = some y) : ∃ k, c = .int .i64 k ∧ I64 k := by
  obtain ⟨k, e, _, w⟩ := DataW.trod_int Try.underlying3 h
  simp at e
  exact ⟨k, e, i64_of_wf w⟩
theorem array2 {α : Type} {xs : Array α} (h : xs.size = 2) : ∃ c0 c1, xs = #[c0, c1] := by
  obtain ⟨l⟩ := xs
  match l, h with
  | [c0, c1], _ => exact ⟨c0, c1, rfl⟩
theorem cellsLs : Try.prog.cellsOf 55 = 1 := by kernel_rfl
theorem slice_of_trod {n : Nat} {c : Value} {x : DataW H × List MemPlace} (h : DataW.trod enc Try.prog W 0 (fun _ => true) true n 55 [c] = some x) : ∃ ao len cap, c = .slice ao len cap := by
  rcases open_ints Try.underlying55 Try.underlying3 cellsInt h with ⟨hcs, _⟩ | ⟨a, len, cap, zs, hcs, _⟩
  · simp at hcs
    exact ⟨_, _, _, hcs⟩
  · simp at hcs
    exact ⟨_, _, _, hcs⟩
theorem cellsSt : Try.prog.cellsOf 57 = 2 := by kernel_rfl
set_option maxRecDepth 100000 in
theorem open_story {r : Reach} {base : Nat} {v : Value} {d : DataW H} {p : List MemPlace} (hv : Value.okWide Try.prog W r base 57 v) (h : DataW.Trod enc Try.prog W 0 (fun _ => true) true 57 v d p) :
    ∃ (u : Value) (L : List Int) (k : Int), v = .agg #[u, .int .i64 k] ∧ Si W u L ∧ I64 k := by
  obtain ⟨cs, rfl, hsz⟩ := okWide_struct Try.underlying57 hv
  obtain ⟨c0, c1, rfl⟩ := array2 (hsz.trans cellsSt)
  obtain ⟨fuel, hf⟩ := h
  obtain ⟨y0, y1, m, t0, t1⟩ := trodS2 Try.underlying57 (by simpa [Value.cells] using hf)
  simp only [cells3, cellsLs, List.drop_zero, List.drop_succ_cons, List.take_succ_cons, List.take_zero] at t0 t1
  obtain ⟨k, rfl, wk⟩ := int_cell t1
  obtain ⟨ao, len, cap, rfl⟩ := slice_of_trod t0
  obtain ⟨l, hl⟩ := open_l (v := .slice ao len cap) ⟨m, by simpa [Value.cells] using t0⟩ ⟨_, _, _, rfl⟩
  exact ⟨_, l, k, rfl, hl, wk⟩
end
theorem Wz.base {w w0 w' : World} {Z : Nat → Prop} {p : Nat} {J : Int → Option Dt} {a h : Int} {n : Nat} (o : Wz w0 w' Z p J a h n) (hm : Mod (fun _ => False) w w0) : Wz w w' Z p J a h n := by
  obtain ⟨X, h1, h3, h4⟩ := o.ex
  exact ⟨⟨X, h1, fun i hi => Nat.le_trans hm.size (h3 i hi), h4⟩, o.zl, hm.and o.mod⟩
/-- A window of a story: no bodies. -/
def gdJ (J : Int → Option Dt) : Prop := ∀ k d, J k = some d → d.m.body = []
theorem gdJ.put {J : Int → Option Dt} (h : gdJ J) {d : Dt} (hd : d.m.body = []) : gdJ (pZ J d) := by
  intro k e he
  unfold pZ at he
  split at he
  · exact h k e he
  · unfold upd at he
    split at he
    · simp at he; rw [← he]; exact hd
    · exact h k e he
theorem and_small (x : Int) (y : Nat) (hy : y < 2 ^ 63) : ∃ z : Nat, bits .and .i64 x (y : Int) = (z : Int) ∧ z ≤ y := ⟨_, Cr.and_nat x y hy, Nat.and_le_right⟩
def oz5 (n s : Int) (b : Bool) : Dt := ⟨2, 1, n, s, 0, ⟨5, s, 1, 0, 0, 1, 1, b, 0, 0, 0, 0, []⟩⟩
theorem okN {k n s o : Int} {b : Bool} (h : 1 ≤ n ∧ n ≤ 30) : okP ⟨2, 1, n, s, 0, ⟨k, o, 1, 0, 0, 1, 1, b, 0, 0, 0, 0, []⟩⟩ = true := by
  have e : cr 2 1 = 0 := rfl
  unfold okP
  simp only [e, beq_self_eq_true, Bool.true_and, Bool.and_eq_true, decide_eq_true_eq]
  omega
set_option maxRecDepth 100000 in
set_option maxHeartbeats 8000000 in
theorem window_w (v : Value) (L : List Int) (k : Int) (w : World) (hs : Si w v L) : Calls Try.prog 15 #[.agg #[v, .int .i64 k]] w fun e w' => ∃ p, e = .returned (.pointer (some ⟨p, 0, none⟩)) ∧ ∃ (J : Int → Option Dt) (a h : Int) (n : Nat), Wz w w' (fun _ => False) p J a h n ∧ n ≤ 60 ∧ h ≤ 30 ∧ gdJ J := by
  obtain ⟨ao, cap, rfl, -, -, -, hcell⟩ := hs.form
  obtain ⟨w1, ew1⟩ : ∃ W, W = w.alloc (.cells #[.slice ao L.length cap, .int .i64 k] 57) := ⟨_, rfl⟩
  obtain ⟨kb, ekb⟩ : ∃ k, k = w.heap.size := ⟨_, rfl⟩
  have hM : Mod (fun _ => False) w w1 := by rw [ew1]; exact (Mod.refl _ w).alloc _
  have hB : Bk w1 kb 57 #[.slice ao L.length cap, .int .i64 k] := by rw [ew1, ekb]; exact Bk.new w _ _
  have HM : Hid (Mod (fun _ => False) w w1) := hM
  have HB : Hid (Bk w1 kb 57 #[.slice ao L.length cap, .int .i64 k]) := hB
  have HC : Hid (L ≠ [] → ∃ b off, ao = some ⟨b, off, none⟩ ∧ ∀ j, j < L.length → w1.cell? ⟨b, off + j, none⟩ = some (.int .i64 (L.getD j 0))) := fun hl => by
    obtain ⟨b, off, e, h⟩ := hcell hl
    exact ⟨b, off, e, fun j hj => hM.cell (h j hj) (fun h => h)⟩
  clear hs hcell hM hB
  go_enter Try.func15, Try.ntmps15
  go_upto_region 1 with (fail)
  rw [← ew1, ← ekb]
  clear ew1 ekb
  go_wp2_with (fail)
  refine (Wz.new (Mod.refl _ w1)).mono ?_
  rintro e w2 ⟨p, rfl, hz2, -⟩
  have HZ2 : Hid (Wz w1 w2 (fun _ => False) p (fun _ => none) 0 0 0) := hz2
  clear hz2
  go_wp2_with (fail)
  go_loopw [4] (fun i wr => ∃ (j : Nat) (J : Int → Option Dt) (a h : Int), i = .int .i64 (j : Int) ∧ j ≤ 60 ∧ j ≤ L.length ∧ Hid (Wz w1 wr (fun _ => False) p J a h j) ∧ Hid (h ≤ 30 ∧ gdJ J)) (fun i _ => 60 - (intOf i).toNat)
  case atStart => exact ⟨0, fun _ => none, 0, 0, rfl, by omega, by omega, HZ2.out, ⟨by omega, fun k d h => by cases h⟩⟩
  case round =>
    obtain ⟨j, J, a, h, rfl, hj, hjl, hz, hh⟩ := hrel
    have c0 : wr.cell? ⟨kb, 0, none⟩ = some (.slice ao L.length cap) := (HB.out.mod hz.out.mod (fun h => h)).cellv (j := 0) rfl
    by_cases hlt : j < L.length ∧ j < 60
    · have hlt1 : (j : Int) < (L.length : Int) := by omega
      have hlt2 : (j : Int) < 60 := by omega
      have hj0 : (0 : Int) ≤ (j : Int) := by omega
      have HLT : Hid (j < L.length ∧ j < 60) := hlt
      obtain ⟨b, off, rfl, hcl⟩ := HC.out (by intro e; rw [e] at hlt; simp at hlt)
      have cj : wr.cell? ⟨b, off + j, none⟩ = some (.int .i64 (L.getD j 0)) := hz.out.mod.cell (hcl j hlt.1) (fun h => h)
      generalize L.getD j 0 = x0 at cj
      obtain ⟨y, hy, hyl⟩ := and_small x0 65535 (by decide)
      rw [show ((65535 : Nat) : Int) = 65535 from rfl] at hy
      clear hcl hlt hj hjl
      go_upto_region 6 with (fail)
      have hr0 : 0 ≤ (y : Int).tmod 30 := Int.tmod_nonneg _ (by omega)
      have hr1 : (y : Int).tmod 30 < 30 := Int.tmod_lt_of_pos _ (by omega)
      go_wp2_with (fail)
      generalize hsv : wrap64 (1 + bits BinOp.and IntKind.i64 (↑y / 64) 3) = sv
      generalize hbv : (bits BinOp.and IntKind.i64 (↑y / 256) 3 == 0) = bv
      obtain ⟨nv, hnv⟩ : ∃ nv : Int, nv = 1 + (y : Int) % 30 := ⟨_, rfl⟩
      have HNV : Hid (1 ≤ nv ∧ nv ≤ 30) := ⟨by omega, by omega⟩
      rw [← hnv]
      have HZZ : Hid (Wz w1 wr (fun _ => False) p J a h j) := hz
      refine (one_w nv sv bv _).mono ?_
      rintro e w3 ⟨rfl, hm3⟩
      have HZ3 : Hid (Wz w1 w3 (fun _ => False) p J a h j) := HZZ.out.keep hm3
      have hZr : Hid (Bk _ _ _ _) := Bk.new w3 #[.int .i64 0, .int .i64 0, .int .i64 0, .int .i64 0, .int .i64 0, .int .i64 0, .int .i64 0, .int .i64 0, .int .i64 0, .int .i64 0, .int .i64 0, .int .i64 0, .bool false, .int .i64 0, .int .i64 0, .int .i64 0, .int .i64 0, .slice none 0 0] 44
      have hA := (Mod.refl (fun _ => False) w3).alloc (.cells #[.int .i64 0, .int .i64 0, .int .i64 0, .int .i64 0, .int .i64 0, .int .i64 0, .int .i64 0, .int .i64 0, .int .i64 0, .int .i64 0, .int .i64 0, .int .i64 0, .bool false, .int .i64 0, .int .i64 0, .int .i64 0, .int .i64 0, .slice none 0 0] 44)
      unfold dv oz
      clear hm3 HZZ hz hsv hbv hnv c0 cj hy hr0 hr1
      go_upto_region 7 with (refine wpList_store_row info18 rfl rfl _ _ rfl w3.heap.size #[.int .i64 2, .int .i64 1, .int .i64 nv, .int .i64 sv, .int .i64 0, .int .i64 1, .int .i64 sv, .int .i64 1, .int .i64 0, .int .i64 0, .int .i64 1, .int .i64 1, .bool bv, .int .i64 0, .int .i64 0, .int .i64 0, .int .i64 0, .slice none 0 0] rfl rfl hZr.out rfl rfl rfl ?_; intro wF hBF hMF)
      have hq : Mod (fun _ => False) w3 wF := hA.trans hMF (V := fun _ => False) (fun _ _ h => h) (fun i hi h => by omega)
      have HZF : Hid (Wz w1 wF (fun _ => False) p J a h j) := HZ3.out.keep hq
      have hsz := HZ3.out.mod.size
      obtain ⟨db, edb⟩ : ∃ db, db = w3.heap.size := ⟨_, rfl⟩
      rw [← edb] at hBF ⊢
      have HDB : Hid (w3.heap.size ≤ db) := by show _ ≤ _; omega
      have HBF : Hid (Bk wF db 44 #[.int .i64 2, .int .i64 1, .int .i64 nv, .int .i64 sv, .int .i64 0, .int .i64 1, .int .i64 sv, .int .i64 1, .int .i64 0, .int .i64 0, .int .i64 1, .int .i64 1, .bool bv, .int .i64 0, .int .i64 0, .int .i64 0, .int .i64 0, .slice none 0 0]) := hBF
      have HAA : Hid (∀ u, Mod (fun _ => False) w3 (wF.setCell ⟨db, 5, none⟩ u)) := fun u => hq.setCell ⟨db, 5, none⟩ u (.inr HDB.out)
      have c5 : wF.cell? ⟨db, 5, none⟩ = some (.int .i64 1) := hBF.cellv (j := 5) rfl
      have f5 := hBF.frz 5
      clear hA hMF hq edb hBF hsz hZr
      by_cases hk : bits BinOp.and IntKind.i64 ((y : Int) / 1024) 7 = 0
      · have hb : (bits BinOp.and IntKind.i64 ((y : Int) / 1024) 7 == 0) = true := by simp [hk]
        clear hk
        go_upto_region 9 with (fail)
        have HBX : Hid (Bk (wF.setCell ⟨db, 5, none⟩ (.int .i64 5)) db 44 #[.int .i64 2, .int .i64 1, .int .i64 nv, .int .i64 sv, .int .i64 0, .int .i64 5, .int .i64 sv, .int .i64 1, .int .i64 0, .int .i64 0, .int .i64 1, .int .i64 1, .bool bv, .int .i64 0, .int .i64 0, .int .i64 0, .int .i64 0, .slice none 0 0]) := HBF.out.set 5 (.int .i64 5)
        have HZ4 : Hid (Wz w1 (wF.setCell ⟨db, 5, none⟩ (.int .i64 5)) (fun _ => False) p J a h j) := HZ3.out.keep (HAA.out _)
        generalize wF.setCell ⟨db, 5, none⟩ (.int .i64 5) = w4 at *
        clear c5 f5 hb
        have HPU := HZ4.out.put (oz5 nv sv bv) rfl (by unfold oz5; exact okN HNV.out) (by have := HLT.out; omega)
        unfold dv at HPU
        simp only [oz5] at HPU
        go_wp2_with (refine wpList_load_row info18 Try.underlying44 rfl rfl _ rfl db rfl HBX.out rfl ?_; simp only [Act.put, List.setIfInBounds_toArray, List.set_cons_succ, List.set_cons_zero])
        refine HPU.mono ?_
        rintro e w9 ⟨a', r, rfl, hz9, hm9⟩
        have HZ9 : Hid (Wz w1 w9 (fun _ => False) p (pZ J ((oz5 nv sv bv))) a' (max h nv) (j + 1)) := hz9
        have HG9 : Hid (max h nv ≤ 30 ∧ gdJ (pZ J ((oz5 nv sv bv)))) := ⟨by have h1 := hh.out.1; have h2 := HNV.out; show _ ≤ _; omega, hh.out.2.put rfl⟩
        clear hz9 hm9 HPU
        go_wp2
        go_roundw
        case rel => exact ⟨j + 1, _, a', max h nv, by go_num, by have := HLT.out; omega, by have := HLT.out; omega, HZ9, HG9⟩
        case measure =>
          have := HLT.out
          simp [intOf]
          omega
      · have hb : (bits BinOp.and IntKind.i64 ((y : Int) / 1024) 7 == 0) = false := by simp [hk]
        clear hk
        go_upto_region 9 with (fail)
        have HBX : Hid (Bk wF db 44 #[.int .i64 2, .int .i64 1, .int .i64 nv, .int .i64 sv, .int .i64 0, .int .i64 1, .int .i64 sv, .int .i64 1, .int .i64 0, .int .i64 0, .int .i64 1, .int .i64 1, .bool bv, .int .i64 0, .int .i64 0, .int .i64 0, .int .i64 0, .slice none 0 0]) := HBF.out
        have HZ4 : Hid (Wz w1 wF (fun _ => False) p J a h j) := HZF.out
        clear c5 f5 hb
        have HPU := HZ4.out.put (oz nv sv bv) rfl (okN HNV.out) (by have := HLT.out; omega)
        unfold dv at HPU
        simp only [oz] at HPU
        go_wp2_with (refine wpList_load_row info18 Try.underlying44 rfl rfl _ rfl db rfl HBX.out rfl ?_; simp only [Act.put, List.setIfInBounds_toArray, List.set_cons_succ, List.set_cons_zero])
        refine HPU.mono ?_
        rintro e w9 ⟨a', r, rfl, hz9, hm9⟩
        have HZ9 : Hid (Wz w1 w9 (fun _ => False) p (pZ J ((oz nv sv bv))) a' (max h nv) (j + 1)) := hz9
        have HG9 : Hid (max h nv ≤ 30 ∧ gdJ (pZ J ((oz nv sv bv)))) := ⟨by have h1 := hh.out.1; have h2 := HNV.out; show _ ≤ _; omega, hh.out.2.put rfl⟩
        clear hz9 hm9 HPU
        go_wp2
        go_roundw
        case rel => exact ⟨j + 1, _, a', max h nv, by go_num, by have := HLT.out; omega, by have := HLT.out; omega, HZ9, HG9⟩
        case measure =>
          have := HLT.out
          simp [intOf]
          omega
    · have hlt' : ¬ ((j : Int) < (L.length : Int) ∧ (j : Int) < 60) := by omega
      have hfin : Hid (Wz w1 wr (fun _ => False) p J a h j ∧ j ≤ 60) := ⟨hz.out, hj⟩
      by_cases h1 : (j : Int) < (L.length : Int)
      · have h2 : ¬ (j : Int) < 60 := by omega
        clear hlt hlt'
        go_wp2
        go_ret
        exact ⟨p, rfl, J, a, h, j, hfin.out.1.base HM.out, hfin.out.2, hh.out.1, hh.out.2⟩
      · clear hlt hlt'
        go_wp2
        go_ret
        exact ⟨p, rfl, J, a, h, j, hfin.out.1.base HM.out, hfin.out.2, hh.out.1, hh.out.2⟩
end Go.Proofs.Ytampdkbcijdpcaa
