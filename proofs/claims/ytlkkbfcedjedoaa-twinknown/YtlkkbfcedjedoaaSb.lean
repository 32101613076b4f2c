/- Contracts of the check's own calls: eight steps, the table. No conditions. -/
import Derived.Test.YtlkkbfcedjedoaaSa
import Derived.Test.YtlkkbfcedjedoaaWa
import Derived.Laws.BitsAllLaws
import Derived.Deep.WholeRow
import Derived.Laws.ResultCell
import Derived.Deep.LoopGhost
namespace Go.Proofs.Ytlkkbfcedjedoaa.Sm
open Go.RowKit
theorem and1 {x : Nat} (h : x < 4294967296) : bits .and .u32 (x : Int) 1 = ((x % 2 : Nat) : Int) := by
  have := u32_and_nat x 1 h (by omega)
  rw [Nat.and_one_is_mod] at this
  simpa using this
theorem xorP {x : Nat} (h : x < 4294967296) : bits .xor .u32 (x : Int) 3988292384 = ((x ^^^ 3988292384 : Nat) : Int) := by
  have := u32_xor_nat x 3988292384 h (by omega)
  simpa using this
theorem steps_snoc (n : Nat) : ∀ x, steps (n + 1) x = step (steps n x) := by
  induction n with
  | zero => intro x; rfl
  | succ n ih => intro x; rw [steps, ih]; rfl
theorem step_odd {x : Nat} (h : x % 2 = 1) : step x = x / 2 ^^^ 3988292384 := by unfold step; rw [if_pos h]
theorem step_even {x : Nat} (h : x % 2 = 0) : step x = x / 2 := by unfold step; rw [if_neg (by omega)]
set_option maxRecDepth 100000 in
theorem eight_any (x : Nat) (w : World) (hx : x < 4294967296) :
    Calls Try.prog 86 #[.int .u32 (x : Int)] w fun e w' => e = .returned (.int .u32 (eight x : Nat)) ∧ w' = w := by
  go_enter Try.func86, Try.ntmps86
  go_wp2
  go_loop [0, 3] (fun s i => ∃ (y k : Nat), s = .int .u32 (y : Int) ∧ i = .int .i64 (k : Int) ∧ k ≤ 8 ∧ y < 4294967296 ∧ Hid (steps (8 - k) y = eight x)) (fun _ i => 8 - (intOf i).toNat)
  case atStart => exact ⟨x, 0, rfl, rfl, by omega, hx, rfl⟩
  case round =>
    obtain ⟨y, k, rfl, rfl, hk, hy, he⟩ := hrel
    clear hx
    by_cases hlt : k < 8
    · have ha := and1 hy
      have hxp := xorP (x := y / 2) (by omega)
      rw [show ((y / 2 : Nat) : Int) = (y : Int) / 2 by omega] at hxp
      have hs : steps (8 - (k + 1)) (step y) = eight x := by
        rw [← he.out, show 8 - k = (8 - (k + 1)) + 1 by omega]; rfl
      have HS : Hid (steps (8 - (k + 1)) (step y) = eight x) := hs
      have HL : Hid (step y < 4294967296) := step_lt hy
      clear hs he
      by_cases hod : y % 2 = 1
      · rw [step_odd hod] at HS HL
        rw [hod] at ha
        go_wp2
        go_round
        case rel => exact ⟨y / 2 ^^^ 3988292384, k + 1, by simp only, by go_num, by omega, HL.out, HS⟩
        case measure => simp [intOf]; omega
      · have hev : y % 2 = 0 := by omega
        rw [step_even hev] at HS HL
        rw [hev] at ha
        go_wp2
        go_round
        case rel => exact ⟨y / 2, k + 1, by go_num, by go_num, by omega, HL.out, HS⟩
        case measure => simp [intOf]; omega
    · obtain rfl : k = 8 := by omega
      have HE : Hid (y = eight x) := he.out
      go_wp2
      go_ret
      exact ⟨by rw [← HE.out]; rfl, rfl⟩

/-- What the table holds: the first k bytes' eight steps. -/
def tab (k : Nat) : Array Value := Array.ofFn (n := 256) fun i => if i.val < k then .int .u32 ((eight i.val : Nat) : Int) else .int .u32 0
theorem tab_size (k : Nat) : (tab k).size = 256 := by simp [tab]
theorem tab_zero : tab 0 = Array.replicate 256 (.int .u32 0) := by
  apply Array.ext
  · simp [tab]
  · intro i h1 h2; simp [tab]
theorem tab_get (k i : Nat) (hi : i < 256) : (tab k)[i]? = some (if i < k then .int .u32 ((eight i : Nat) : Int) else .int .u32 0) := by
  simp [tab, hi]
theorem tab_set (k : Nat) (hk : k < 256) : (tab k).setIfInBounds k (.int .u32 ((eight k : Nat) : Int)) = tab (k + 1) := by
  apply Array.ext_getElem?
  intro i
  rw [Array.getElem?_setIfInBounds]
  by_cases hi : i < 256
  · rw [tab_get _ _ hi, tab_get _ _ hi]
    by_cases e : k = i
    · subst e; simp [tab_size, hk]
    · rw [if_neg e]
      by_cases h : i < k
      · simp [h, show i < k + 1 by omega]
      · simp [h, show ¬ i < k + 1 by omega]
  · have h1 : (tab k)[i]? = none := Array.getElem?_eq_none (by rw [tab_size]; omega)
    have h2 : (tab (k + 1))[i]? = none := Array.getElem?_eq_none (by rw [tab_size]; omega)
    rw [h1, h2, if_neg (by omega)]
theorem tab_one (k : Nat) : (tab k).all (·.oneCell') = true := by
  rw [Array.all_eq_true]
  intro i hi
  simp only [tab, Array.getElem_ofFn]
  split <;> rfl
theorem info36 : (Try.prog.info? 127).map (fun i => (i.zero, i.size)) = some (some (.agg (Array.replicate 256 (.int .u32 0))), 256) := by kernel_rfl
theorem heap_alloc_size (w : World) (o : Obj) : (w.alloc o).heap.size = w.heap.size + 1 := by simp
theorem Mod.setRow {S : Nat → Prop} {a w : World} (h : Mod S a w) (b : Nat) (c : Array Value) (hp : S b ∨ a.heap.size ≤ b) : Mod S a (w.setRow b c) :=
  ⟨h.os, h.tape, h.output, by simp [World.setRow]; exact h.size, fun k hk hS => by
    have hne : b ≠ k := by rintro rfl; rcases hp with hp | hp; exact hS hp; omega
    have : (w.setRow b c).heap[k]? = w.heap[k]? := by simp [World.setRow, Array.getElem?_modify, hne]
    exact this.trans (h.block k hk hS)⟩
theorem two_heap (w : World) : ((w.alloc (.cells (tab 0) 127)).alloc (.cells (tab 256) 127)).heap[w.heap.size]? = some (.cells (tab 0) 127 (0, 0)) := by
  rw [Below.heap_alloc _ _ _ (by simp)]
  exact heap_alloc_last w _
theorem run_storeCells_old (w : World) : (storeCells ⟨w.heap.size, 0, none⟩ (tab 256).toList 0).run Try.prog ((w.alloc (.cells (tab 0) 127)).alloc (.cells (tab 256) 127)) = .ok () (((w.alloc (.cells (tab 0) 127)).alloc (.cells (tab 256) 127)).setRow w.heap.size (tab 256)) := by
  obtain ⟨_, hi⟩ := zero_of_info info36
  have := run_storeVar_row (P := Try.prog) _ _ 127 127 (tab 0) (tab 256) (two_heap w) (by rw [tab_size]; exact hi) (by rw [tab_size, tab_size]) (tab_one _)
  cases hq : Try.prog.info? 127 with
  | none => simp [hq] at hi
  | some i =>
    have hs : (tab 256).size = i.size := by rw [tab_size]; simp [hq] at hi; omega
    simpa [storeVar, sizeOf, typeInfo, hq, Value.cells, hs] using this
theorem wp_load_at {P : Program} {o : Oper} {t : TypeId} {x : Operand} (ho : o.op = .load t x) (a : Act) (w : World) (v : Value) {K : Act → World → Prop} {Q : Exit → Act → World → Prop}
    (h : (Instr.loadAt t (a.eval x)).run P w = .ok v w) (k : K (a.put o.dst v) w) : Oper.wp P o a w K Q := by
  unfold Oper.wp
  simp only [execOp, ho, Sem.run_bind, h, Result.andThen]
  exact k
theorem wp_store_at {P : Program} {o : Oper} {t : TypeId} {x y : Operand} (ho : o.op = .store t x y) (a : Act) (w w' : World) {K : Act → World → Prop} {Q : Exit → Act → World → Prop}
    (h : (Instr.storeAt t (a.eval x) (a.eval y)).run P w = .ok () w') (k : K (a.put o.dst undef) w') : Oper.wp P o a w K Q := by
  unfold Oper.wp
  simp only [execOp, ho, Sem.run_bind, h, Result.andThen]
  exact k
theorem results_cell1 {fn : Func} {p : Tmp} {ty : TypeId} (h : fn.results = #[.cell p ty]) (tmps : Array Value) (P : Program) (w : World) :
    (results fn tmps).run P w = ((asAddr (tmps.getD p undef)).run P w).andThen fun a w₁ => (loadVar ty a).run P w₁ := by
  simp only [results, h]
  simp [Sem.run_bind, Result.andThen]
theorem run_loadCells_old (w : World) : (loadVar 127 ⟨w.heap.size, 0, none⟩).run Try.prog (((w.alloc (.cells (tab 0) 127)).alloc (.cells (tab 256) 127)).setRow w.heap.size (tab 256)) = .ok (.agg (tab 256)) (((w.alloc (.cells (tab 0) 127)).alloc (.cells (tab 256) 127)).setRow w.heap.size (tab 256)) := by
  obtain ⟨_, hi⟩ := zero_of_info info36
  exact run_loadVar_row _ _ 127 127 (tab 256) (0, 0) _ (setRow_heap _ _ (tab 0) (tab 256) 127 (0, 0) (two_heap w)) Try.underlying127 rfl (by rw [tab_size]; exact hi)
set_option maxRecDepth 100000 in
set_option maxHeartbeats 1000000 in
theorem table_any (w : World) : Calls Try.prog 79 #[] w fun e w' => e = .returned (.agg (tab 256)) ∧ Mod (fun _ => False) w w' := by
  obtain ⟨hz36, hi36⟩ := zero_of_info info36
  go_enter Try.func79, Try.ntmps79
  go_wp2
  rw [← tab_zero]
  go_loopw [3] (fun i wr => ∃ k : Nat, i = .int .i64 (k : Int) ∧ k ≤ 256 ∧ wr = (w.alloc (.cells (tab 0) 127)).alloc (.cells (tab k) 127)) (fun i _ => 256 - (intOf i).toNat)
  case atStart => exact ⟨0, rfl, by omega, rfl⟩
  case round =>
    obtain ⟨k, rfl, hk, rfl⟩ := hrel
    by_cases hlt : k < 256
    · have hg := tab_get k k hlt
      rw [if_neg (Nat.lt_irrefl k)] at hg
      have ht := tab_set k hlt
      have hsz := tab_size k
      obtain ⟨T, hT⟩ : ∃ T, T = tab k := ⟨_, rfl⟩
      obtain ⟨T0, hT0⟩ : ∃ T, T = tab 0 := ⟨_, rfl⟩
      obtain ⟨E, hE⟩ : ∃ E, E = eight k := ⟨_, rfl⟩
      have hcall : ∀ w', Calls Try.prog 86 #[.int .u32 (k : Int)] w' fun e w'' => e = .returned (.int .u32 (E : Int)) ∧ w'' = w' := fun w' => hE ▸ eight_any k w' (by omega)
      rw [← hT0, ← hT]
      rw [← hT] at hg hsz ht
      rw [← hE] at ht
      have HT : Hid (T.setIfInBounds k (.int .u32 (E : Int)) = tab (k + 1)) := ht
      have HT0 : Hid (T0 = tab 0) := hT0
      have hw : IntKind.u32.wrap (k : Int) = (k : Int) := by rw [IntKind.wrap_u32']; omega
      clear hT hT0 hE ht
      go_wp2_with fail
      refine (hcall _).mono ?_
      rintro e w' ⟨rfl, rfl⟩
      clear hcall
      go_wp2
      rw [HT.out]
      go_roundw
      case rel => exact ⟨k + 1, by go_num, by omega, rfl⟩
      case measure => simp [intOf]; omega
    · obtain rfl : k = 256 := by omega
      have hsz := tab_size 256
      have hlc := run_loadCellsFrom_new (P := Try.prog) (w.alloc (.cells (tab 0) 127)) 127 (tab 256) 256 hsz
      have hsc := run_storeCells_old w
      have hld := run_loadCells_old w
      have HM : Mod (fun _ => False) w (((w.alloc (.cells (tab 0) 127)).alloc (.cells (tab 256) 127)).setRow w.heap.size (tab 256)) := Mod.setRow (((Mod.refl _ w).alloc _).alloc _) _ _ (.inr (Nat.le_refl _))
      have hl0 := run_loadAt_new (P := Try.prog) (w.alloc (.cells (tab 0) 127)) 127 (tab 256) 256 102 Try.underlying127 (by rw [hsz]; exact hi36)
      rw [heap_alloc_size] at hl0
      clear hlc
      have HL : Hid _ := hl0
      have HD : Hid _ := hld
      clear hl0 hld hsc
      go_wp2
      refine wp_load_at rfl _ _ _ HL.out ?_
      go_wp2
      rw [run_storeCells_old]
      simp only [Result.andThen]
      rw [Oper.upon_skip]
      clear HL
      go_wp2
      refine bodyPost_ret (v := .agg (tab 256)) ?_ rfl ⟨rfl, HM⟩
      rw [results_cell1 (p := 0) (ty := 127) rfl]
      show ((asAddr (.pointer (some ⟨w.heap.size, 0, none⟩))).run Try.prog _).andThen _ = _
      simp only [asAddr, Sem.run_pure, Result.andThen, HD.out]
end Go.Proofs.Ytlkkbfcedjedoaa.Sm
