/- Data: their copies, the document's and the program's; whether two are the same; numbers brought. Conditions: sizes that a slice of bytes has. -/
import Derived.Test.YtampdkbcijdpcaaPm
import Derived.Test.YtampdkbcijdpcaaWi
import Derived.Test.YtampdkbcijdpcaaGw
import Derived.Deep.RegionHeld3
import Derived.Deep.DeepCutAuto
import Derived.Deep.Light
namespace Go.Proofs.Ytampdkbcijdpcaa
open Go.RowKit
theorem eqKey (s q r n s' q' r' n' : Int) (w : World) : (Op.equalIn 10000 39 (.agg #[.int .i64 s, .int .i64 q, .int .i64 r, .int .i64 n]) (.agg #[.int .i64 s', .int .i64 q', .int .i64 r', .int .i64 n'])).run Try.prog w = .ok (decide (s = s') && (decide (q = q') && (decide (r = r') && decide (n = n')))) w := by
  by_cases h1 : s = s' <;> by_cases h2 : q = q' <;> by_cases h3 : r = r' <;> by_cases h4 : n = n' <;> simp [go_sem, h1, h2, h3, h4]
theorem eqRing (q r q' r' : Int) (w : World) : (Op.equalIn 10000 23 (.agg #[.int .i64 q, .int .i64 r]) (.agg #[.int .i64 q', .int .i64 r'])).run Try.prog w = .ok (decide (q = q') && decide (r = r')) w := by
  by_cases h2 : q = q' <;> by_cases h3 : r = r' <;> simp [go_sem, h2, h3]
theorem info13 : (Try.prog.info? 42).map (·.size) = some 13 := by kernel_rfl
theorem info18 : (Try.prog.info? 44).map (·.size) = some 18 := by kernel_rfl
theorem copy_any (v : Value) (l : List Int) (w : World) (hs : Sl w v l) (hb : l.length ≤ 140737488355328) :
    Calls Try.prog 71 #[v] w fun e w' => ∃ v', e = .returned v' ∧ Own w' v' l ∧ Mod (fun _ => False) w w' ∧ (∀ g, v'.ownBlock = some g → w.heap.size ≤ g) := by
  obtain ⟨i0, hi, hz0, hz1, hz2⟩ := info_parts info5
  obtain ⟨ao, cap, rfl, h1, h2, h3, h4⟩ := hs.form
  cases ao with
  | none =>
    obtain rfl := h3 rfl
    obtain rfl : l = [] := List.eq_nil_of_length_eq_zero (by omega)
    go_enter Try.func71, Try.ntmps71
    go_wp2
    go_ret
    exact ⟨_, rfl, Own.nil _, Mod.refl _ _, by intro g hg; simp [Value.ownBlock] at hg⟩
  | some a =>
    have hcells : ∀ j u, (U l)[j]? = some u → w.cell? (a.add j) = some u := fun j u hu => by
      by_cases hl : l = []
      · subst hl; simp [U] at hu
      · obtain ⟨b, off, e, hc⟩ := h4 hl
        cases e
        exact cells_of hc j u hu
    clear h4
    go_enter Try.func71, Try.ntmps71
    go_wp2_with (at_builtin; refine wpList_append_own_at _ rfl _ _ 40 rfl 0 5 i0 (.int .u8 0) 1 1 Try.underlying40 hi hz0 hz1 hz2 rfl (by decide) (.slice none 0 0) 0 [] rfl (World.ownsRow_nil _ _ _ _) a l.length cap (U l) rfl (by simp [U]) hcells (U_one l) (by simp only [maxLen]; omega) (by omega) (Nat.zero_le _) ?_; intro v2 w2 hown2 hgrow hnil hat; simp only [Nat.zero_add, List.nil_append] at hown2)
    go_ret
    refine ⟨v2, rfl, hown2, (Mod.refl _ w).grown hgrow (by intro k hk; simp [Value.ownBlock] at hk), ?_⟩
    intro g hg
    rcases hat with h | h
    · rw [h] at hg; simp [Value.ownBlock] at hg
    · rw [h] at hg; simp at hg; omega
set_option maxRecDepth 100000 in
set_option maxHeartbeats 2000000 in
theorem Same_eq (k o lf i p ps g : Int) (s : Bool) (st rs rr sq : Int) (ao ao' : Option Addr) (cap cap' : Nat) (l : List Int) (w : World) (hs : Sl w (.slice ao l.length cap) l) (hs' : Sl w (.slice ao' l.length cap') l) :
    Calls Try.prog 68 #[.agg #[.int .i64 k, .int .i64 o, .int .i64 lf, .int .i64 i, .int .i64 p, .int .i64 ps, .int .i64 g, .bool s, .int .i64 st, .int .i64 rs, .int .i64 rr, .int .i64 sq, .slice ao l.length cap], .agg #[.int .i64 k, .int .i64 o, .int .i64 lf, .int .i64 i, .int .i64 p, .int .i64 ps, .int .i64 g, .bool s, .int .i64 st, .int .i64 rs, .int .i64 rr, .int .i64 sq, .slice ao' l.length cap']] w fun e w' => e = .returned (.bool true) ∧ Mod (fun _ => False) w w' := by
  have hA := ((Mod.refl (fun _ => False) w).alloc (.cells #[.int .i64 k, .int .i64 o, .int .i64 lf, .int .i64 i, .int .i64 p, .int .i64 ps, .int .i64 g, .bool s, .int .i64 st, .int .i64 rs, .int .i64 rr, .int .i64 sq, (.slice ao l.length cap)] 42)).alloc (.cells #[.int .i64 k, .int .i64 o, .int .i64 lf, .int .i64 i, .int .i64 p, .int .i64 ps, .int .i64 g, .bool s, .int .i64 st, .int .i64 rs, .int .i64 rr, .int .i64 sq, (.slice ao' l.length cap')] 42)
  have HE := EqBytes_any _ _ l l _ (hs.mod hA (fun _ _ h => h)) (hs'.mod hA (fun _ _ h => h))
  have EK : ∀ W, (Op.equalIn 10000 39 (.agg #[.int .i64 st, .int .i64 rs, .int .i64 rr, .int .i64 sq]) (.agg #[.int .i64 st, .int .i64 rs, .int .i64 rr, .int .i64 sq])).run Try.prog W = .ok true W := fun W => by
    have := eqKey st rs rr sq st rs rr sq W
    simpa using this
  go_enter Try.func68, Try.ntmps68
  go_wp2_with (fail)
  refine HE.mono ?_
  rintro e w1 ⟨rfl, hm⟩
  go_wp2
  go_ret
  exact ⟨by simp, hA.trans hm (V := fun _ => False) (fun _ _ h => h) (fun _ _ h => h)⟩
theorem res1 {fn : Func} {pp : Tmp} (h : fn.results = #[.cell pp 42]) {tmps : Array Value} {w : World} {b : Nat} {xs : Array Value} (hp : tmps.getD pp undef = .pointer (some ⟨b, 0, none⟩)) (hb : Bk w b 42 xs) (hs : xs.size = 13) :
    (results fn tmps).run Try.prog w = .ok (.agg xs) w := by
  rw [results_cell1 h, hp]
  have hl := run_loadVar_mid (P := Try.prog) w b 0 42 xs.toList _ hb.row Try.underlying42 rfl (by rw [info13]; simp [hs])
  simp only [asAddr, Sem.run_pure, Result.andThen]
  rw [hl]
set_option maxRecDepth 100000 in
set_option maxHeartbeats 4000000 in
theorem dCopy (k o lf i p ps g : Int) (s : Bool) (st rs rr sq : Int) (ao : Option Addr) (cap : Nat) (l : List Int) (w : World) (hs : Sl w (.slice ao l.length cap) l) (hb : l.length ≤ 140737488355328) :
    Calls Try.prog 55 #[.agg #[.int .i64 k, .int .i64 o, .int .i64 lf, .int .i64 i, .int .i64 p, .int .i64 ps, .int .i64 g, .bool s, .int .i64 st, .int .i64 rs, .int .i64 rr, .int .i64 sq, .slice ao l.length cap]] w fun e w' => ∃ ao' cap', e = .returned (.agg #[.int .i64 k, .int .i64 o, .int .i64 lf, .int .i64 i, .int .i64 p, .int .i64 ps, .int .i64 g, .bool s, .int .i64 st, .int .i64 rs, .int .i64 rr, .int .i64 sq, .slice ao' l.length cap']) ∧ Own w' (.slice ao' l.length cap') l ∧ Mod (fun _ => False) w w' ∧ (∀ g, (Value.slice ao' l.length cap').ownBlock = some g → w.heap.size ≤ g) := by
  have hA := (((Mod.refl (fun _ => False) w).alloc (.cells #[.int .i64 k, .int .i64 o, .int .i64 lf, .int .i64 i, .int .i64 p, .int .i64 ps, .int .i64 g, .bool s, .int .i64 st, .int .i64 rs, .int .i64 rr, .int .i64 sq, .slice ao l.length cap] 42)).alloc (.cells #[.int .i64 0, .int .i64 0, .int .i64 0, .int .i64 0, .int .i64 0, .int .i64 0, .int .i64 0, .bool false, .int .i64 0, .int .i64 0, .int .i64 0, .int .i64 0, .slice none 0 0] 42)).alloc (.cells #[.int .i64 k, .int .i64 o, .int .i64 lf, .int .i64 i, .int .i64 p, .int .i64 ps, .int .i64 g, .bool s, .int .i64 st, .int .i64 rs, .int .i64 rr, .int .i64 sq, .slice ao l.length cap] 42)
  have hZ := (Bk.new (w.alloc (.cells #[.int .i64 k, .int .i64 o, .int .i64 lf, .int .i64 i, .int .i64 p, .int .i64 ps, .int .i64 g, .bool s, .int .i64 st, .int .i64 rs, .int .i64 rr, .int .i64 sq, .slice ao l.length cap] 42)) #[.int .i64 0, .int .i64 0, .int .i64 0, .int .i64 0, .int .i64 0, .int .i64 0, .int .i64 0, .bool false, .int .i64 0, .int .i64 0, .int .i64 0, .int .i64 0, .slice none 0 0] 42).mod ((Mod.refl (fun _ => False) _).alloc (.cells #[.int .i64 k, .int .i64 o, .int .i64 lf, .int .i64 i, .int .i64 p, .int .i64 ps, .int .i64 g, .bool s, .int .i64 st, .int .i64 rs, .int .i64 rr, .int .i64 sq, .slice ao l.length cap] 42)) (fun h => h)
  have hO := Bk.new ((w.alloc (.cells #[.int .i64 k, .int .i64 o, .int .i64 lf, .int .i64 i, .int .i64 p, .int .i64 ps, .int .i64 g, .bool s, .int .i64 st, .int .i64 rs, .int .i64 rr, .int .i64 sq, .slice ao l.length cap] 42)).alloc (.cells #[.int .i64 0, .int .i64 0, .int .i64 0, .int .i64 0, .int .i64 0, .int .i64 0, .int .i64 0, .bool false, .int .i64 0, .int .i64 0, .int .i64 0, .int .i64 0, .slice none 0 0] 42)) #[.int .i64 k, .int .i64 o, .int .i64 lf, .int .i64 i, .int .i64 p, .int .i64 ps, .int .i64 g, .bool s, .int .i64 st, .int .i64 rs, .int .i64 rr, .int .i64 sq, .slice ao l.length cap] 42
  have e1 : (w.alloc (.cells #[.int .i64 k, .int .i64 o, .int .i64 lf, .int .i64 i, .int .i64 p, .int .i64 ps, .int .i64 g, .bool s, .int .i64 st, .int .i64 rs, .int .i64 rr, .int .i64 sq, .slice ao l.length cap] 42)).heap.size = w.heap.size + 1 := by simp
  have e2 : ((w.alloc (.cells #[.int .i64 k, .int .i64 o, .int .i64 lf, .int .i64 i, .int .i64 p, .int .i64 ps, .int .i64 g, .bool s, .int .i64 st, .int .i64 rs, .int .i64 rr, .int .i64 sq, .slice ao l.length cap] 42)).alloc (.cells #[.int .i64 0, .int .i64 0, .int .i64 0, .int .i64 0, .int .i64 0, .int .i64 0, .int .i64 0, .bool false, .int .i64 0, .int .i64 0, .int .i64 0, .int .i64 0, .slice none 0 0] 42)).heap.size = w.heap.size + 1 + 1 := by simp
  have e3 : (((w.alloc (.cells #[.int .i64 k, .int .i64 o, .int .i64 lf, .int .i64 i, .int .i64 p, .int .i64 ps, .int .i64 g, .bool s, .int .i64 st, .int .i64 rs, .int .i64 rr, .int .i64 sq, .slice ao l.length cap] 42)).alloc (.cells #[.int .i64 0, .int .i64 0, .int .i64 0, .int .i64 0, .int .i64 0, .int .i64 0, .int .i64 0, .bool false, .int .i64 0, .int .i64 0, .int .i64 0, .int .i64 0, .slice none 0 0] 42)).alloc (.cells #[.int .i64 k, .int .i64 o, .int .i64 lf, .int .i64 i, .int .i64 p, .int .i64 ps, .int .i64 g, .bool s, .int .i64 st, .int .i64 rs, .int .i64 rr, .int .i64 sq, .slice ao l.length cap] 42)).heap.size = w.heap.size + 3 := by simp
  rw [e1] at hZ
  rw [e2] at hO
  have HCp := copy_any (.slice ao l.length cap) l _ (hs.mod hA (fun _ _ h => h)) hb
  have HZ : Hid (Bk _ _ _ _) := hZ
  have HO : Hid (Bk _ _ _ _) := hO
  clear hZ hO e1 e2
  go_enter Try.func55, Try.ntmps55
  go_wp2_with (fail)
  refine HCp.mono ?_
  rintro e w1 ⟨v1, rfl, ho1, hm1, hf1⟩
  obtain ⟨ao', cap', rfl⟩ := ho1.shape
  have hm := hA.trans hm1 (V := fun _ => False) (fun _ _ h => h) (fun _ _ h => h)
  have hZ1 := HZ.out.mod hm1 (fun h => h)
  have hO1 := HO.out.mod hm1 (fun h => h)
  have c12 := hO1.cellv (j := 12) rfl
  have f12 := hO1.frz 12
  have hO2 := hO1.set 12 (.slice ao' l.length cap')
  simp only [List.setIfInBounds_toArray, List.set_cons_succ, List.set_cons_zero] at hO2
  have hZ2 := hZ1.other ⟨w.heap.size + 1 + 1, 12, none⟩ (.slice ao' l.length cap') (by simp)
  have hS := (Mod.refl (fun q => q = w.heap.size + 1 + 1) w1).setCell ⟨w.heap.size + 1 + 1, 12, none⟩ (.slice ao' l.length cap') (.inl rfl)
  have HM2 : Hid (Mod (fun _ => False) w _) := hm.trans hS (V := fun _ => False) (fun _ _ h => h) (fun q hq h => by omega)
  have HN2 : Hid (Own _ _ _) := ho1.mod hS (fun q hq e => by have := hf1 q hq; omega)
  have HO2 : Hid (Bk _ _ _ _) := hO2
  have HZ2 : Hid (Bk _ _ _ _) := hZ2
  have HF : Hid (∀ q, (Value.slice ao' l.length cap').ownBlock = some q → w.heap.size + 3 ≤ q) := fun q hq => by have := hf1 q hq; omega
  clear hZ1 hO1 hO2 hZ2 hm hm1 ho1 hA HCp HZ HO hf1 e3 hS
  go_wp2_with (first | (refine wpList_load_row info13 Try.underlying42 rfl rfl _ rfl (w.heap.size + 1 + 1) rfl HO2.out rfl ?_; simp only [Act.put, List.setIfInBounds_toArray, List.set_cons_succ, List.set_cons_zero]) | (refine wpList_store_row info13 rfl rfl _ _ rfl (w.heap.size + 1) #[.int .i64 k, .int .i64 o, .int .i64 lf, .int .i64 i, .int .i64 p, .int .i64 ps, .int .i64 g, .bool s, .int .i64 st, .int .i64 rs, .int .i64 rr, .int .i64 sq, .slice ao' l.length cap'] rfl rfl HZ2.out rfl rfl rfl ?_; intro wF hBF hMF))
  exact bodyPost_ret (res1 rfl rfl hBF rfl) rfl ⟨ao', cap', rfl, HN2.out.mod hMF (fun q hq e => by have := HF.out q hq; omega), HM2.out.trans hMF (V := fun _ => False) (fun _ _ h => h) (fun q hq h => by omega), fun q hq => by have := HF.out q hq; omega⟩
/-- Data in the block b. -/
def DB (w : World) (b : Nat) (dq dr ds dn dt : Int) (k o lf i p ps g : Int) (s : Bool) (st rs rr sq : Int) (bv : Value) : Prop := w.heap[b]? = some (.cells #[.int .i64 dq, .int .i64 dr, .int .i64 ds, .int .i64 dn, .int .i64 dt, .int .i64 k, .int .i64 o, .int .i64 lf, .int .i64 i, .int .i64 p, .int .i64 ps, .int .i64 g, .bool s, .int .i64 st, .int .i64 rs, .int .i64 rr, .int .i64 sq, bv] 44 (0, 0))
set_option maxRecDepth 100000 in
theorem DB.cells {w : World} {b : Nat} {dq dr ds dn dt k o lf i p ps g : Int} {s : Bool} {st rs rr sq : Int} {bv : Value} (h : DB w b dq dr ds dn dt k o lf i p ps g s st rs rr sq bv) : w.cell? ⟨b, 0, none⟩ = some (.int .i64 dq) ∧ w.cell? ⟨b, 1, none⟩ = some (.int .i64 dr) ∧ w.cell? ⟨b, 2, none⟩ = some (.int .i64 ds) ∧ w.cell? ⟨b, 3, none⟩ = some (.int .i64 dn) ∧ w.cell? ⟨b, 4, none⟩ = some (.int .i64 dt) ∧ w.cell? ⟨b, 5, none⟩ = some (.int .i64 k) ∧ w.cell? ⟨b, 6, none⟩ = some (.int .i64 o) ∧ w.cell? ⟨b, 7, none⟩ = some (.int .i64 lf) ∧ w.cell? ⟨b, 8, none⟩ = some (.int .i64 i) ∧ w.cell? ⟨b, 9, none⟩ = some (.int .i64 p) ∧ w.cell? ⟨b, 10, none⟩ = some (.int .i64 ps) ∧ w.cell? ⟨b, 11, none⟩ = some (.int .i64 g) ∧ w.cell? ⟨b, 12, none⟩ = some (.bool s) ∧ w.cell? ⟨b, 13, none⟩ = some (.int .i64 st) ∧ w.cell? ⟨b, 14, none⟩ = some (.int .i64 rs) ∧ w.cell? ⟨b, 15, none⟩ = some (.int .i64 rr) ∧ w.cell? ⟨b, 16, none⟩ = some (.int .i64 sq) ∧ w.cell? ⟨b, 17, none⟩ = some (bv) := by
  unfold DB at h
  simp [World.cell?, h]
theorem DB.frz {w : World} {b : Nat} {dq dr ds dn dt k o lf i p ps g : Int} {s : Bool} {st rs rr sq : Int} {bv : Value} (h : DB w b dq dr ds dn dt k o lf i p ps g s st rs rr sq bv) (j : Nat) : w.frozen? ⟨b, j, none⟩ = false := by
  unfold DB at h
  simp [World.frozen?, h]
theorem DB.new (w : World) (dq dr ds dn dt : Int) (k o lf i p ps g : Int) (s : Bool) (st rs rr sq : Int) (bv : Value) : DB (w.alloc (.cells #[.int .i64 dq, .int .i64 dr, .int .i64 ds, .int .i64 dn, .int .i64 dt, .int .i64 k, .int .i64 o, .int .i64 lf, .int .i64 i, .int .i64 p, .int .i64 ps, .int .i64 g, .bool s, .int .i64 st, .int .i64 rs, .int .i64 rr, .int .i64 sq, bv] 44)) w.heap.size dq dr ds dn dt k o lf i p ps g s st rs rr sq bv := heap_alloc_new w _
theorem DB.mod {S : Nat → Prop} {w' : World} {w : World} {b : Nat} {dq dr ds dn dt k o lf i p ps g : Int} {s : Bool} {st rs rr sq : Int} {bv : Value} (h : DB w b dq dr ds dn dt k o lf i p ps g s st rs rr sq bv) (hm : Mod S w w') (hb : ¬ S b) : DB w' b dq dr ds dn dt k o lf i p ps g s st rs rr sq bv := hm.obj h hb
set_option maxRecDepth 100000 in
set_option maxHeartbeats 4000000 in
theorem SameData_eq (dq dr ds dn dt : Int) (k o lf i p ps g : Int) (s : Bool) (st rs rr sq : Int) (ao ao' : Option Addr) (cap cap' : Nat) (l : List Int) (w : World) (hs : Sl w (.slice ao l.length cap) l) (hs' : Sl w (.slice ao' l.length cap') l) :
    Calls Try.prog 46 #[.agg #[.int .i64 dq, .int .i64 dr, .int .i64 ds, .int .i64 dn, .int .i64 dt, .int .i64 k, .int .i64 o, .int .i64 lf, .int .i64 i, .int .i64 p, .int .i64 ps, .int .i64 g, .bool s, .int .i64 st, .int .i64 rs, .int .i64 rr, .int .i64 sq, .slice ao l.length cap], .agg #[.int .i64 dq, .int .i64 dr, .int .i64 ds, .int .i64 dn, .int .i64 dt, .int .i64 k, .int .i64 o, .int .i64 lf, .int .i64 i, .int .i64 p, .int .i64 ps, .int .i64 g, .bool s, .int .i64 st, .int .i64 rs, .int .i64 rr, .int .i64 sq, .slice ao' l.length cap']] w fun e w' => e = .returned (.bool true) ∧ Mod (fun _ => False) w w' := by
  have hA1 := (Mod.refl (fun _ => False) w).alloc (.cells #[.int .i64 dq, .int .i64 dr, .int .i64 ds, .int .i64 dn, .int .i64 dt, .int .i64 k, .int .i64 o, .int .i64 lf, .int .i64 i, .int .i64 p, .int .i64 ps, .int .i64 g, .bool s, .int .i64 st, .int .i64 rs, .int .i64 rr, .int .i64 sq, .slice ao l.length cap] 44)
  have hA2 := (Mod.refl (fun _ => False) (w.alloc (.cells #[.int .i64 dq, .int .i64 dr, .int .i64 ds, .int .i64 dn, .int .i64 dt, .int .i64 k, .int .i64 o, .int .i64 lf, .int .i64 i, .int .i64 p, .int .i64 ps, .int .i64 g, .bool s, .int .i64 st, .int .i64 rs, .int .i64 rr, .int .i64 sq, .slice ao l.length cap] 44))).alloc (.cells #[.int .i64 dq, .int .i64 dr, .int .i64 ds, .int .i64 dn, .int .i64 dt, .int .i64 k, .int .i64 o, .int .i64 lf, .int .i64 i, .int .i64 p, .int .i64 ps, .int .i64 g, .bool s, .int .i64 st, .int .i64 rs, .int .i64 rr, .int .i64 sq, .slice ao' l.length cap'] 44)
  have hA := hA1.trans hA2 (V := fun _ => False) (fun _ _ h => h) (fun _ _ h => h)
  have hd1 := DB.mod (S := fun _ => False) (DB.new w dq dr ds dn dt k o lf i p ps g s st rs rr sq (.slice ao l.length cap)) hA2 (fun h => h)
  have hd2 := DB.new (w.alloc (.cells #[.int .i64 dq, .int .i64 dr, .int .i64 ds, .int .i64 dn, .int .i64 dt, .int .i64 k, .int .i64 o, .int .i64 lf, .int .i64 i, .int .i64 p, .int .i64 ps, .int .i64 g, .bool s, .int .i64 st, .int .i64 rs, .int .i64 rr, .int .i64 sq, .slice ao l.length cap] 44)) dq dr ds dn dt k o lf i p ps g s st rs rr sq (.slice ao' l.length cap')
  rw [show (w.alloc (.cells #[.int .i64 dq, .int .i64 dr, .int .i64 ds, .int .i64 dn, .int .i64 dt, .int .i64 k, .int .i64 o, .int .i64 lf, .int .i64 i, .int .i64 p, .int .i64 ps, .int .i64 g, .bool s, .int .i64 st, .int .i64 rs, .int .i64 rr, .int .i64 sq, .slice ao l.length cap] 44)).heap.size = w.heap.size + 1 from by simp] at hd2
  have HS := Same_eq k o lf i p ps g s st rs rr sq ao ao' cap cap' l _ (hs.mod hA (fun _ _ h => h)) (hs'.mod hA (fun _ _ h => h))
  obtain ⟨a0, a1, a2, a3, a4, a5, a6, a7, a8, a9, a10, a11, a12, a13, a14, a15, a16, a17⟩ := hd1.cells
  obtain ⟨b0, b1, b2, b3, b4, b5, b6, b7, b8, b9, b10, b11, b12, b13, b14, b15, b16, b17⟩ := hd2.cells
  have ER : ∀ W, (Op.equalIn 10000 23 (.agg #[.int .i64 dq, .int .i64 dr]) (.agg #[.int .i64 dq, .int .i64 dr])).run Try.prog W = .ok true W := fun W => by
    have := eqRing dq dr dq dr W
    simpa using this
  clear hd1 hd2 hA1 hA2
  go_enter Try.func46, Try.ntmps46
  go_wp2_with (fail)
  refine HS.mono ?_
  rintro e w1 ⟨rfl, hm⟩
  clear a0 a1 a2 a3 a4 a5 a6 a7 a8 a9 a10 a11 a12 a13 a14 a15 a16 a17 b0 b1 b2 b3 b4 b5 b6 b7 b8 b9 b10 b11 b12 b13 b14 b15 b16 b17
  go_wp2
  go_ret
  exact ⟨by simp, hA.trans hm (V := fun _ => False) (fun _ _ h => h) (fun _ _ h => h)⟩
/-- A struct as a result through a cell. -/
theorem resT {t t' : TypeId} {n : Nat} {d : TypeDesc} (hi : (Try.prog.info? t).map (·.size) = some n) (hu : Try.prog.underlying t = some d) (hd : d.isRow = true) {fn : Func} {pp : Tmp} (h : fn.results = #[.cell pp t]) {tmps : Array Value} {w : World} {b : Nat} {xs : Array Value} (hp : tmps.getD pp undef = .pointer (some ⟨b, 0, none⟩)) (hb : Bk w b t' xs) (hs : xs.size = n) :
    (results fn tmps).run Try.prog w = .ok (.agg xs) w := by
  rw [results_cell1 h, hp]
  have hl := run_loadVar_mid (P := Try.prog) w b 0 t xs.toList _ hb.row hu hd (by rw [hi]; simp [hs])
  simp only [asAddr, Sem.run_pure, Result.andThen]
  rw [hl]
/-- .. and a number behind it. -/
theorem resT2 {t t' : TypeId} {n : Nat} {d : TypeDesc} (hi : (Try.prog.info? t).map (·.size) = some n) (hu : Try.prog.underlying t = some d) (hd : d.isRow = true) {fn : Func} {pp u : Tmp} (h : fn.results = #[.cell pp t, .tmp u]) {tmps : Array Value} {w : World} {b : Nat} {xs : Array Value} {v : Value} (hp : tmps.getD pp undef = .pointer (some ⟨b, 0, none⟩)) (hv : tmps.getD u undef = v) (hb : Bk w b t' xs) (hs : xs.size = n) :
    (results fn tmps).run Try.prog w = .ok (.tuple #[.agg xs, v]) w := by
  rw [results_cell_tmp h, hp, hv]
  have hl := run_loadVar_mid (P := Try.prog) w b 0 t xs.toList _ hb.row hu hd (by rw [hi]; simp [hs])
  simp only [asAddr, Sem.run_pure, Result.andThen]
  rw [hl]
theorem Mod.none {S : Nat → Prop} {a b : World} (h : Mod (fun _ => False) a b) : Mod S a b := h.mono fun _ _ h => h.elim
theorem Mod.and {a b c : World} (h : Mod (fun _ => False) a b) (k : Mod (fun _ => False) b c) : Mod (fun _ => False) a c := h.trans k (fun _ _ h => h) (fun _ _ h => h)
def I64 (x : Int) : Prop := -9223372036854775808 ≤ x ∧ x ≤ 9223372036854775807
/-- Data: the ring's Seq and Rep, Seq, Sender, Stamp, the message. -/
structure Dt where
  q : Int
  r : Int
  n : Int
  s : Int
  t : Int
  m : Ms
def dcl (d : Dt) (v : Value) : List Value := [.int .i64 d.q, .int .i64 d.r, .int .i64 d.n, .int .i64 d.s, .int .i64 d.t, .int .i64 d.m.kind, .int .i64 d.m.origin, .int .i64 d.m.life, .int .i64 d.m.id, .int .i64 d.m.part, .int .i64 d.m.parts, .int .i64 d.m.groups, .bool d.m.safe, .int .i64 d.m.st, .int .i64 d.m.rs, .int .i64 d.m.rr, .int .i64 d.m.sq, v]
def dv (d : Dt) (v : Value) : Value := .agg #[.int .i64 d.q, .int .i64 d.r, .int .i64 d.n, .int .i64 d.s, .int .i64 d.t, .int .i64 d.m.kind, .int .i64 d.m.origin, .int .i64 d.m.life, .int .i64 d.m.id, .int .i64 d.m.part, .int .i64 d.m.parts, .int .i64 d.m.groups, .bool d.m.safe, .int .i64 d.m.st, .int .i64 d.m.rs, .int .i64 d.m.rr, .int .i64 d.m.sq, v]
theorem dcl_len (d : Dt) (v : Value) : (dcl d v).length = 18 := rfl
/-- None. -/
def d0 : Dt := ⟨0, 0, 0, 0, 0, ⟨0, 0, 0, 0, 0, 0, 0, false, 0, 0, 0, 0, []⟩⟩
theorem Sl.shape {w : World} {v : Value} {l : List Int} (h : Sl w v l) : ∃ ao cap, v = .slice ao l.length cap := by
  obtain ⟨ao, cap, e, _⟩ := h.form
  exact ⟨ao, cap, e⟩
set_option maxRecDepth 100000 in
set_option maxHeartbeats 4000000 in
theorem clone_dt (d : Dt) (v : Value) (w : World) (hs : Sl w v d.m.body) (hb : d.m.body.length ≤ 140737488355328) :
    Calls Try.prog 31 #[dv d v] w fun e w' => ∃ v', e = .returned (dv d v') ∧ Own w' v' d.m.body ∧ Mod (fun _ => False) w w' ∧ (∀ g, v'.ownBlock = some g → w.heap.size ≤ g) := by
  obtain ⟨ao, cap, rfl⟩ := hs.shape
  unfold dv
  have hA := ((Mod.refl (fun _ => False) w).alloc (.cells #[.int .i64 d.q, .int .i64 d.r, .int .i64 d.n, .int .i64 d.s, .int .i64 d.t, .int .i64 d.m.kind, .int .i64 d.m.origin, .int .i64 d.m.life, .int .i64 d.m.id, .int .i64 d.m.part, .int .i64 d.m.parts, .int .i64 d.m.groups, .bool d.m.safe, .int .i64 d.m.st, .int .i64 d.m.rs, .int .i64 d.m.rr, .int .i64 d.m.sq, .slice ao d.m.body.length cap] 44)).alloc (.cells #[.int .i64 0, .int .i64 0, .int .i64 0, .int .i64 0, .int .i64 0, .int .i64 0, .int .i64 0, .int .i64 0, .int .i64 0, .int .i64 0, .int .i64 0, .int .i64 0, .bool false, .int .i64 0, .int .i64 0, .int .i64 0, .int .i64 0, .slice none 0 0] 44)
  have hZ := Bk.new (w.alloc (.cells #[.int .i64 d.q, .int .i64 d.r, .int .i64 d.n, .int .i64 d.s, .int .i64 d.t, .int .i64 d.m.kind, .int .i64 d.m.origin, .int .i64 d.m.life, .int .i64 d.m.id, .int .i64 d.m.part, .int .i64 d.m.parts, .int .i64 d.m.groups, .bool d.m.safe, .int .i64 d.m.st, .int .i64 d.m.rs, .int .i64 d.m.rr, .int .i64 d.m.sq, .slice ao d.m.body.length cap] 44)) #[.int .i64 0, .int .i64 0, .int .i64 0, .int .i64 0, .int .i64 0, .int .i64 0, .int .i64 0, .int .i64 0, .int .i64 0, .int .i64 0, .int .i64 0, .int .i64 0, .bool false, .int .i64 0, .int .i64 0, .int .i64 0, .int .i64 0, .slice none 0 0] 44
  have hO := (Bk.new w #[.int .i64 d.q, .int .i64 d.r, .int .i64 d.n, .int .i64 d.s, .int .i64 d.t, .int .i64 d.m.kind, .int .i64 d.m.origin, .int .i64 d.m.life, .int .i64 d.m.id, .int .i64 d.m.part, .int .i64 d.m.parts, .int .i64 d.m.groups, .bool d.m.safe, .int .i64 d.m.st, .int .i64 d.m.rs, .int .i64 d.m.rr, .int .i64 d.m.sq, .slice ao d.m.body.length cap] 44).mod ((Mod.refl (fun _ => False) _).alloc (.cells #[.int .i64 0, .int .i64 0, .int .i64 0, .int .i64 0, .int .i64 0, .int .i64 0, .int .i64 0, .int .i64 0, .int .i64 0, .int .i64 0, .int .i64 0, .int .i64 0, .bool false, .int .i64 0, .int .i64 0, .int .i64 0, .int .i64 0, .slice none 0 0] 44)) (fun h => h)
  have e1 : (w.alloc (.cells #[.int .i64 d.q, .int .i64 d.r, .int .i64 d.n, .int .i64 d.s, .int .i64 d.t, .int .i64 d.m.kind, .int .i64 d.m.origin, .int .i64 d.m.life, .int .i64 d.m.id, .int .i64 d.m.part, .int .i64 d.m.parts, .int .i64 d.m.groups, .bool d.m.safe, .int .i64 d.m.st, .int .i64 d.m.rs, .int .i64 d.m.rr, .int .i64 d.m.sq, .slice ao d.m.body.length cap] 44)).heap.size = w.heap.size + 1 := by simp
  have e3 : ((w.alloc (.cells #[.int .i64 d.q, .int .i64 d.r, .int .i64 d.n, .int .i64 d.s, .int .i64 d.t, .int .i64 d.m.kind, .int .i64 d.m.origin, .int .i64 d.m.life, .int .i64 d.m.id, .int .i64 d.m.part, .int .i64 d.m.parts, .int .i64 d.m.groups, .bool d.m.safe, .int .i64 d.m.st, .int .i64 d.m.rs, .int .i64 d.m.rr, .int .i64 d.m.sq, .slice ao d.m.body.length cap] 44)).alloc (.cells #[.int .i64 0, .int .i64 0, .int .i64 0, .int .i64 0, .int .i64 0, .int .i64 0, .int .i64 0, .int .i64 0, .int .i64 0, .int .i64 0, .int .i64 0, .int .i64 0, .bool false, .int .i64 0, .int .i64 0, .int .i64 0, .int .i64 0, .slice none 0 0] 44)).heap.size = w.heap.size + 2 := by simp
  rw [e1] at hZ
  have HCp := clone_any (.slice ao d.m.body.length cap) d.m.body _ (hs.mod hA (fun _ _ h => h)) hb
  have HZ : Hid (Bk _ _ _ _) := hZ
  have HO : Hid (Bk _ _ _ _) := hO
  clear hZ hO e1
  go_enter Try.func31, Try.ntmps31
  go_wp2_with (fail)
  refine HCp.mono ?_
  rintro e w1 ⟨v1, rfl, ho1, hm1, hf1⟩
  have hm := hA.and hm1
  have hZ1 := HZ.out.mod hm1 (fun h => h)
  have hO1 := HO.out.mod hm1 (fun h => h)
  have c17 := hO1.cellv (j := 17) rfl
  have f17 := hO1.frz 17
  have hO2 := hO1.set 17 v1
  simp only [List.setIfInBounds_toArray, List.set_cons_succ, List.set_cons_zero] at hO2
  have hZ2 := hZ1.other ⟨w.heap.size, 17, none⟩ v1 (by simp)
  have hS := (Mod.refl (fun q => q = w.heap.size) w1).setCell ⟨w.heap.size, 17, none⟩ v1 (.inl rfl)
  have HM2 : Hid (Mod (fun _ => False) w _) := hm.trans hS (V := fun _ => False) (fun _ _ h => h) (fun q hq h => by omega)
  have HN2 : Hid (Own _ _ _) := ho1.mod hS (fun q hq e => by have := hf1 q hq; omega)
  have HO2 : Hid (Bk _ _ _ _) := hO2
  have HZ2 : Hid (Bk _ _ _ _) := hZ2
  have HF : Hid (∀ q, v1.ownBlock = some q → w.heap.size + 2 ≤ q) := fun q hq => by have := hf1 q hq; omega
  obtain ⟨a1, c1, rfl⟩ := ho1.shape
  clear hZ1 hO1 hO2 hZ2 hm hm1 ho1 hA HCp HZ HO hf1 e3 hS
  go_wp2_with (first | (refine wpList_load_row info18 Try.underlying44 rfl rfl _ rfl w.heap.size rfl HO2.out rfl ?_; simp only [Act.put, List.setIfInBounds_toArray, List.set_cons_succ, List.set_cons_zero]) | (refine wpList_store_row info18 rfl rfl _ _ rfl (w.heap.size + 1) #[.int .i64 d.q, .int .i64 d.r, .int .i64 d.n, .int .i64 d.s, .int .i64 d.t, .int .i64 d.m.kind, .int .i64 d.m.origin, .int .i64 d.m.life, .int .i64 d.m.id, .int .i64 d.m.part, .int .i64 d.m.parts, .int .i64 d.m.groups, .bool d.m.safe, .int .i64 d.m.st, .int .i64 d.m.rs, .int .i64 d.m.rr, .int .i64 d.m.sq, .slice a1 d.m.body.length c1] rfl rfl HZ2.out rfl rfl rfl ?_; intro wF hBF hMF))
  exact bodyPost_ret (resT info18 Try.underlying44 rfl rfl rfl hBF rfl) rfl ⟨_, rfl, HN2.out.mod hMF (fun q hq e => by have := HF.out q hq; omega), HM2.out.trans hMF (V := fun _ => False) (fun _ _ h => h) (fun q hq h => by omega), fun q hq => by have := HF.out q hq; omega⟩
end Go.Proofs.Ytampdkbcijdpcaa
