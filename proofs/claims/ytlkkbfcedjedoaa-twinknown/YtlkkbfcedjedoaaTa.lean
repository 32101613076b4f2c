/- Frames of package twin: numbers brought within bounds, and what may be a frame. No conditions. -/
import Derived.Test.YtlkkbfcedjedoaaWd
import Derived.Test.YtlkkbfcedjedoaaWi
import Derived.Deep.RegionHeld3
import Derived.Deep.RegionLaw
namespace Go.Proofs.Ytlkkbfcedjedoaa
open Go.RowKit
/-- Brought within bounds. -/
def near (v lo hi : Int) : Int := max lo (min v hi)
theorem near_any (v lo hi : Int) (w : World) : Calls Try.prog 80 #[.int .i64 v, .int .i64 lo, .int .i64 hi] w fun e w' => e = .returned (.int .i64 (near v lo hi)) ∧ w' = w := by
  go_enter Try.func80, Try.ntmps80
  go_wp2
  all_goals go_ret
  all_goals exact ⟨by show Ending.returned (.int .i64 _) = _; congr 2; unfold near; omega, rfl⟩
theorem near_in (v lo hi : Int) (h : lo ≤ hi) : (v = near v lo hi) ↔ (lo ≤ v ∧ v ≤ hi) := by unfold near; omega
/-- A struct as a result through a cell. -/
theorem resT {t t' : TypeId} {n : Nat} {d : TypeDesc} (hi : (Try.prog.info? t).map (·.size) = some n) (hu : Try.prog.underlying t = some d) (hd : d.isRow = true) {fn : Func} {pp : Tmp} (h : fn.results = #[.cell pp t]) {tmps : Array Value} {w : World} {b : Nat} {xs : Array Value} (hp : tmps.getD pp undef = .pointer (some ⟨b, 0, none⟩)) (hb : Bk w b t' xs) (hs : xs.size = n) :
    (results fn tmps).run Try.prog w = .ok (.agg xs) w := by
  rw [results_cell1 h, hp]
  have hl := run_loadVar_mid (P := Try.prog) w b 0 t xs.toList _ hb.row hu hd (by rw [hi]; simp [hs])
  simp only [asAddr, Sem.run_pure, Result.andThen]
  rw [hl]
/-- .. and a number behind it. -/
theorem resT2 {t t' : TypeId} {n : Nat} {d : TypeDesc} (hi : (Try.prog.info? t).map (·.size) = some n) (hu : Try.prog.underlying t = some d) (hd : d.isRow = true) {fn : Func} {pp u : Tmp} (h : fn.results = #[.cell pp t, .tmp u]) {tmps : Array Value} {w : World} {b : Nat} {xs : Array Value} {v : Value} (hp : tmps.getD pp undef = .pointer (some ⟨b, 0, none⟩)) (hv : tmps.getD u undef = v) (hb : Bk w b t' xs) (hs : xs.size = n) :
    (results fn tmps).run Try.prog w = .ok (.tuple #[.agg xs, v]) w := by
  rw [results_cell_tmp h, hp, hv]
  have hl := run_loadVar_mid (P := Try.prog) w b 0 t xs.toList _ hb.row hu hd (by rw [hi]; simp [hs])
  simp only [asAddr, Sem.run_pure, Result.andThen]
  rw [hl]
theorem Bk.drew {w : World} {b : Nat} {t : TypeId} {xs : Array Value} (h : Bk w b t xs) : Bk w.drew b t xs := ⟨h.at'⟩
theorem Bk.new2 (w : World) (o : Obj) (xs : Array Value) (t : TypeId) : Bk ((w.alloc o).alloc (.cells xs t)) (w.heap.size + 1) t xs := by
  have := Bk.new (w.alloc o) xs t
  rwa [show (w.alloc o).heap.size = w.heap.size + 1 by simp] at this
theorem infoHd : (Try.prog.info? 105).map (·.size) = some 4 := by kernel_rfl
theorem infoFr : (Try.prog.info? 24).map (·.size) = some 4 := by kernel_rfl
set_option maxRecDepth 100000 in
set_option maxHeartbeats 1000000 in
theorem bounded_any (a b c d : Int) (w : World) : Calls Try.prog 66 #[.agg #[.int .i64 a, .int .i64 b, .int .i64 c, .int .i64 d]] w fun e w' => e = .returned (.agg #[.int .i64 (near a 1 8), .int .i64 (near b 1 9007199254740991), .int .i64 (near c 1 9007199254740991), .int .i64 (near d 0 512)]) ∧ Mod (fun _ => False) w w' := by
  have H := near_any
  generalize near = nr at H ⊢
  have hB : ((w.alloc (.cells #[.int .i64 a, .int .i64 b, .int .i64 c, .int .i64 d] 105)).alloc (.cells #[.int .i64 0, .int .i64 0, .int .i64 0, .int .i64 0] 105)).heap[w.heap.size]? = some (.cells #[.int .i64 a, .int .i64 b, .int .i64 c, .int .i64 d] 105 (0, 0)) := ((Mod.refl (fun _ => False) _).alloc _).obj (heap_alloc_new w _) (fun h => h)
  have a0 : ((w.alloc (.cells #[.int .i64 a, .int .i64 b, .int .i64 c, .int .i64 d] 105)).alloc (.cells #[.int .i64 0, .int .i64 0, .int .i64 0, .int .i64 0] 105)).cell? ⟨w.heap.size, 0, none⟩ = some (.int .i64 a) := by simp only [World.cell?, hB]; rfl
  have a1 : ((w.alloc (.cells #[.int .i64 a, .int .i64 b, .int .i64 c, .int .i64 d] 105)).alloc (.cells #[.int .i64 0, .int .i64 0, .int .i64 0, .int .i64 0] 105)).cell? ⟨w.heap.size, 1, none⟩ = some (.int .i64 b) := by simp only [World.cell?, hB]; rfl
  have a2 : ((w.alloc (.cells #[.int .i64 a, .int .i64 b, .int .i64 c, .int .i64 d] 105)).alloc (.cells #[.int .i64 0, .int .i64 0, .int .i64 0, .int .i64 0] 105)).cell? ⟨w.heap.size, 2, none⟩ = some (.int .i64 c) := by simp only [World.cell?, hB]; rfl
  have a3 : ((w.alloc (.cells #[.int .i64 a, .int .i64 b, .int .i64 c, .int .i64 d] 105)).alloc (.cells #[.int .i64 0, .int .i64 0, .int .i64 0, .int .i64 0] 105)).cell? ⟨w.heap.size, 3, none⟩ = some (.int .i64 d) := by simp only [World.cell?, hB]; rfl
  clear hB
  go_enter Try.func66, Try.ntmps66
  go_wp2_with (fail)
  go_region_held3 (fun y => y.cell? ⟨w.heap.size, 0, none⟩ = some (.int .i64 a) ∧ y.cell? ⟨w.heap.size, 1, none⟩ = some (.int .i64 b) ∧ y.cell? ⟨w.heap.size, 2, none⟩ = some (.int .i64 c) ∧ y.cell? ⟨w.heap.size, 3, none⟩ = some (.int .i64 d)) (first | with_reducible exact ⟨a0, a1, a2, a3⟩ | go_keep)
    ((go_at_call 80; refine (H _ _ _ _).mono ?_; rintro e w1 ⟨rfl, rfl⟩))
  clear a0 a1 a2 a3
  go_wp2
  refine bodyPost_ret (resT infoHd Try.underlying105 rfl rfl rfl (Bk.new2 w _ _ _).drew rfl) rfl ⟨rfl, (((Mod.refl _ w).alloc _).alloc _).drew⟩
theorem eqHead (a b c d a' b' c' d' : Int) (w : World) : (Op.equalIn 10000 105 (.agg #[.int .i64 a, .int .i64 b, .int .i64 c, .int .i64 d]) (.agg #[.int .i64 a', .int .i64 b', .int .i64 c', .int .i64 d'])).run Try.prog w = .ok (decide (a = a') && (decide (b = b') && (decide (c = c') && decide (d = d')))) w := by
  by_cases h1 : a = a' <;> by_cases h2 : b = b' <;> by_cases h3 : c = c' <;> by_cases h4 : d = d' <;> simp [go_sem, h1, h2, h3, h4]
/-- What may be a frame. -/
def okF (s l n : Int) (m : Nat) : Bool := decide ((1 ≤ s ∧ s ≤ 8) ∧ (1 ≤ l ∧ l ≤ 9007199254740991) ∧ (1 ≤ n ∧ n ≤ 9007199254740991) ∧ m ≤ 512)
set_option maxRecDepth 100000 in
set_option maxHeartbeats 1000000 in
theorem mayBe_any (s l n : Int) (ao : Option Addr) (m cap : Nat) (w : World) : Calls Try.prog 32 #[.agg #[.int .i64 s, .int .i64 l, .int .i64 n, .slice ao m cap]] w fun e w' => e = .returned (.bool (okF s l n m)) ∧ Mod (fun _ => False) w w' := by
  have H := bounded_any s l n (m : Int)
  have E := eqHead s l n (m : Int) (near s 1 8) (near l 1 9007199254740991) (near n 1 9007199254740991) (near m 0 512)
  have hR : (decide (s = near s 1 8) && (decide (l = near l 1 9007199254740991) && (decide (n = near n 1 9007199254740991) && decide ((m : Int) = near m 0 512)))) = okF s l n m := by
    rw [Bool.eq_iff_iff]
    simp only [Bool.and_eq_true, decide_eq_true_eq, okF, near_in _ 1 8 (by omega), near_in _ 1 9007199254740991 (by omega), near_in _ 0 512 (by omega)]
    omega
  rw [hR] at E
  clear hR
  generalize near s 1 8 = s' at H E
  generalize near l 1 9007199254740991 = l' at H E
  generalize near n 1 9007199254740991 = n' at H E
  generalize near (m : Int) 0 512 = m' at H E
  generalize okF s l n m = R at E ⊢
  have hA := ((Mod.refl (fun _ => False) w).alloc (.cells #[.int .i64 s, .int .i64 l, .int .i64 n, .slice ao m cap] 24)).alloc (.cells #[.int .i64 s, .int .i64 l, .int .i64 n, .int .i64 m] 105)
  have hB := Bk.new2 w (.cells #[.int .i64 s, .int .i64 l, .int .i64 n, .slice ao m cap] 24) #[.int .i64 s, .int .i64 l, .int .i64 n, .int .i64 m] 105
  have a0 := hB.cellv (j := 0) rfl
  have a1 := hB.cellv (j := 1) rfl
  have a2 := hB.cellv (j := 2) rfl
  have a3 := hB.cellv (j := 3) rfl
  replace hA := hA.drew
  clear hB
  go_enter Try.func32, Try.ntmps32
  go_wp2_with (fail)
  go_region_held3 (fun y => y.cell? ⟨w.heap.size + 1, 0, none⟩ = some (.int .i64 s) ∧ y.cell? ⟨w.heap.size + 1, 1, none⟩ = some (.int .i64 l) ∧ y.cell? ⟨w.heap.size + 1, 2, none⟩ = some (.int .i64 n) ∧ y.cell? ⟨w.heap.size + 1, 3, none⟩ = some (.int .i64 (m : Int))) (first | with_reducible exact ⟨a0, a1, a2, a3⟩ | go_keep)
    ((go_at_call 66; refine (H _).mono ?_; rintro e w1 ⟨rfl, hm1⟩; replace a0 := hm1.cell a0 (fun h => h); replace a1 := hm1.cell a1 (fun h => h); replace a2 := hm1.cell a2 (fun h => h); replace a3 := hm1.cell a3 (fun h => h)))
  go_wp2
  go_ret
  exact ⟨rfl, hA.trans hm1 (V := fun _ => False) (fun _ _ h => h) (fun _ _ h => h)⟩
end Go.Proofs.Ytlkkbfcedjedoaa
