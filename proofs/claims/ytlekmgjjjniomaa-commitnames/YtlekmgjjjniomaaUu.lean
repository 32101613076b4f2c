/- The document's kept of a packet that is a commit. No conditions. -/
import Derived.Test.YtlekmgjjjniomaaUt
namespace Go.Proofs.Ytlekmgjjjniomaa
open Go.RowKit
theorem range_nil (w : World) (b o : Nat) : w.rangeAt b o [] := fun j v h => by simp at h
theorem range_cons {w : World} {b o : Nat} {v : Value} {vs : List Value} (h : w.cell? ⟨b, o, none⟩ = some v) (hr : w.rangeAt b (o + 1) vs) : w.rangeAt b o (v :: vs) := fun j u hu => by
  cases j with
  | zero => simp at hu; subst hu; exact h
  | succ j => simp at hu; have := hr j u hu; rwa [show o + 1 + j = o + (j + 1) by omega] at this
theorem wpList_load_rangeg {ops : Array Oper} {rest : List Oper} {op : Oper} {a : Act} {w : World} {Q : Exit → Act → World → Prop} {t : TypeId} {n : Nat} {d : TypeDesc} (hi : (Try.prog.info? t).map (·.size) = some n) (hu : Try.prog.underlying t = some d) (hd : d.isRow = true) (hw : Region.wanted op (yielded ops a.tmps) = true) (x : Operand) (ho : op.op = .load t x)
    (b o : Nat) (hx : a.eval x = .pointer (some ⟨b, o, none⟩)) (cs : List Value) (hr : w.rangeAt b o cs) (hl : cs.length = n)
    (h : wpList Try.prog ops Q rest (a.put op.dst (.agg cs.toArray)) w) : wpList Try.prog ops Q (op :: rest) a w := by
  refine wpList_step fun K hK => ?_
  rw [if_pos hw]
  exact wp_load_mid (P := Try.prog) t x ho b o hx cs d hr hu hd (by rw [hi, hl]) (hK _ _ h)
theorem info40 : (Try.prog.info? 73).map (·.size) = some 40 := by kernel_rfl
theorem ldp {b : Nat} {t' : TypeId} {xs : Array Value} {w : World} (hB : Bk w b t' xs) (hs : xs.size = 40) : (Instr.loadAt 73 (.pointer (some ⟨b, 0, none⟩))).run Try.prog w = .ok (.agg xs) w := by
  have hl := run_loadVar_mid (P := Try.prog) w b 0 73 xs.toList _ hB.row Try.underlying73 rfl (by rw [info40]; simp [hs])
  simp only [Instr.loadAt, Instr.sureAddr, Sem.run_bind, Sem.run_pure, Result.andThen_ok, hl]
theorem wpList_val {ops : Array Oper} {rest : List Oper} {op : Oper} {a : Act} {w w' : World} {Q : Exit → Act → World → Prop} {v : Value} (hw : Region.wanted op (yielded ops a.tmps) = true) (hr : (execOp a.eval op).run Try.prog w = .ok (.value v) w')
    (h : wpList Try.prog ops Q rest (a.put op.dst v) w') : wpList Try.prog ops Q (op :: rest) a w := by
  refine wpList_step fun K hK => ?_
  rw [if_pos hw]
  exact wp_value hr (hK _ _ h)
/-- A packet that is a commit. -/
abbrev pxC (tw rs rr mm hp : Int) (cao : Option Addr) (n ccap : Nat) : Array Value := #[.int .i64 4, .int .i64 tw, .int .i64 0, .int .i64 0, .int .i64 0, .int .i64 0, .int .i64 0, .int .i64 0, .int .i64 0, .int .i64 0, .int .i64 0, .int .i64 0, .int .i64 0, .int .i64 0, .bool false, .int .i64 0, .int .i64 0, .int .i64 0, .int .i64 0, .slice none 0 0, .int .i64 0, .int .i64 0, .int .i64 0, .int .i64 0, .int .i64 0, .int .i64 0, .int .i64 0, .int .i64 0, .slice none 0 0, .int .i64 0, .int .i64 0, .int .i64 0, .int .i64 rs, .int .i64 rr, .int .i64 mm, .int .i64 hp, .slice cao n ccap, .int .i64 0, .int .i64 0, .int .i64 0]
/-- A part of a row stored. -/
theorem wpList_store_at {ops : Array Oper} {rest : List Oper} {op : Oper} {a : Act} {w : World} {Q : Exit → Act → World → Prop} {t : TypeId} {n : Nat} (hi : (Try.prog.info? t).map (·.size) = some n) (hgd : op.guard = none) (hdt : op.dst = none) (x y : Operand) (ho : op.op = .store t x y)
    (b off : Nat) (cells : Array Value) (hx : a.eval x = .pointer (some ⟨b, off, none⟩)) (hy : a.eval y = .agg cells) {t' : TypeId} {xs : Array Value} (hB : Bk w b t' xs) (hxs : off + n ≤ xs.size) (hcs : cells.size = n) (h1 : cells.toList.all (·.oneCell') = true)
    (h : ∀ w', Bk w' b t' (sets' xs off cells.toList) → Mod (fun k => k = b) w w' → wpList Try.prog ops Q rest a w') : wpList Try.prog ops Q (op :: rest) a w :=
  wpList_store_mid (P := Try.prog) hgd t x y ho b off cells hx hy (hB.there (by omega)) (by rw [hi, hcs]) (by rw [← Array.all_toList]; exact h1) (by rw [hdt]; exact h _ (Bk.stores cells.toList off hB) (setCells_mod b cells.toList off w))
theorem sets_px (tw rs rr mm hp : Int) (cao : Option Addr) (n ccap : Nat) : sets' #[.int .i64 4, .int .i64 tw, .int .i64 0, .int .i64 0, .int .i64 0, .int .i64 0, .int .i64 0, .int .i64 0, .int .i64 0, .int .i64 0, .int .i64 0, .int .i64 0, .int .i64 0, .int .i64 0, .bool false, .int .i64 0, .int .i64 0, .int .i64 0, .int .i64 0, .slice none 0 0, .int .i64 0, .int .i64 0, .int .i64 0, .int .i64 0, .int .i64 0, .int .i64 0, .int .i64 0, .int .i64 0, .slice none 0 0, .int .i64 0, .int .i64 0, .int .i64 0, .int .i64 0, .int .i64 0, .int .i64 0, .int .i64 0, .slice none 0 0, .int .i64 0, .int .i64 0, .int .i64 0] 32 [.int .i64 rs, .int .i64 rr, .int .i64 mm, .int .i64 hp, .slice cao n ccap] = pxC tw rs rr mm hp cao n ccap := by
  simp only [sets', List.setIfInBounds_toArray, List.set_cons_succ, List.set_cons_zero]
theorem bdP {o : Oper} {w : World} {ρ : Operand → Value} (ho : o.op = .build 73 #[(0, Operand.tmp 5), (1, Operand.tmp 7)]) {a b : Int} (h5 : ρ (Operand.tmp 5) = .int .i64 a) (h7 : ρ (Operand.tmp 7) = .int .i64 b) : (execOp ρ o).run Try.prog w = .ok (.value (.agg #[.int .i64 a, .int .i64 b, .int .i64 0, .int .i64 0, .int .i64 0, .int .i64 0, .int .i64 0, .int .i64 0, .int .i64 0, .int .i64 0, .int .i64 0, .int .i64 0, .int .i64 0, .int .i64 0, .bool false, .int .i64 0, .int .i64 0, .int .i64 0, .int .i64 0, .slice none 0 0, .int .i64 0, .int .i64 0, .int .i64 0, .int .i64 0, .int .i64 0, .int .i64 0, .int .i64 0, .int .i64 0, .slice none 0 0, .int .i64 0, .int .i64 0, .int .i64 0, .int .i64 0, .int .i64 0, .int .i64 0, .int .i64 0, .slice none 0 0, .int .i64 0, .int .i64 0, .int .i64 0])) w := by
  simp [execOp, ho, h5, h7, go_sem]
set_option maxRecDepth 100000 in
set_option maxHeartbeats 8000000 in
theorem kept_c (tw rs rr mm hp : Int) (cao : Option Addr) (n ccap : Nat) (w : World) : Calls Try.prog 54 #[.agg (pxC tw rs rr mm hp cao n ccap)] w fun e w' => e = .returned (.agg (pxC tw rs rr mm hp cao n ccap)) ∧ Mod (fun _ => False) w w' := by
  have hB1 := Bk.new w (pxC tw rs rr mm hp cao n ccap) 73
  have hM := ((Mod.refl (fun _ => False) w).alloc (.cells (pxC tw rs rr mm hp cao n ccap) 73))
  go_enter Try.func54, Try.ntmps54
  go_upto_region 1 with fail
  obtain ⟨W1, hW⟩ : ∃ W1, W1 = (w.alloc (.cells (pxC tw rs rr mm hp cao n ccap) 73)).alloc (.cells #[.int .i64 0, .int .i64 0, .int .i64 0, .int .i64 0, .int .i64 0, .int .i64 0, .int .i64 0, .int .i64 0, .int .i64 0, .int .i64 0, .int .i64 0, .int .i64 0, .int .i64 0, .int .i64 0, .bool false, .int .i64 0, .int .i64 0, .int .i64 0, .int .i64 0, .slice none 0 0, .int .i64 0, .int .i64 0, .int .i64 0, .int .i64 0, .int .i64 0, .int .i64 0, .int .i64 0, .int .i64 0, .slice none 0 0, .int .i64 0, .int .i64 0, .int .i64 0, .int .i64 0, .int .i64 0, .int .i64 0, .int .i64 0, .slice none 0 0, .int .i64 0, .int .i64 0, .int .i64 0] 73) := ⟨_, rfl⟩
  rw [← hW]
  have hm1 : Mod (fun _ => False) w W1 := by rw [hW]; exact hM.alloc _
  have hb1 : Bk W1 w.heap.size 73 (pxC tw rs rr mm hp cao n ccap) := by rw [hW]; exact hB1.mod ((Mod.refl (fun _ => False) _).alloc _) (fun h => h)
  have hb2 : Bk W1 (w.heap.size + 1) 73 #[.int .i64 0, .int .i64 0, .int .i64 0, .int .i64 0, .int .i64 0, .int .i64 0, .int .i64 0, .int .i64 0, .int .i64 0, .int .i64 0, .int .i64 0, .int .i64 0, .int .i64 0, .int .i64 0, .bool false, .int .i64 0, .int .i64 0, .int .i64 0, .int .i64 0, .slice none 0 0, .int .i64 0, .int .i64 0, .int .i64 0, .int .i64 0, .int .i64 0, .int .i64 0, .int .i64 0, .int .i64 0, .slice none 0 0, .int .i64 0, .int .i64 0, .int .i64 0, .int .i64 0, .int .i64 0, .int .i64 0, .int .i64 0, .slice none 0 0, .int .i64 0, .int .i64 0, .int .i64 0] := by
    rw [hW]
    have h := Bk.new (w.alloc (.cells (pxC tw rs rr mm hp cao n ccap) 73)) #[.int .i64 0, .int .i64 0, .int .i64 0, .int .i64 0, .int .i64 0, .int .i64 0, .int .i64 0, .int .i64 0, .int .i64 0, .int .i64 0, .int .i64 0, .int .i64 0, .int .i64 0, .int .i64 0, .bool false, .int .i64 0, .int .i64 0, .int .i64 0, .int .i64 0, .slice none 0 0, .int .i64 0, .int .i64 0, .int .i64 0, .int .i64 0, .int .i64 0, .int .i64 0, .int .i64 0, .int .i64 0, .slice none 0 0, .int .i64 0, .int .i64 0, .int .i64 0, .int .i64 0, .int .i64 0, .int .i64 0, .int .i64 0, .slice none 0 0, .int .i64 0, .int .i64 0, .int .i64 0] 73
    simp only [World.size_alloc] at h
    exact h
  have hsz : w.heap.size + 2 ≤ W1.heap.size := by rw [hW]; simp only [World.size_alloc]; omega
  have hb3 := Bk.new W1 #[.int .i64 0, .int .i64 0, .int .i64 0, .int .i64 0, .int .i64 0, .int .i64 0, .int .i64 0, .int .i64 0, .int .i64 0, .int .i64 0, .int .i64 0, .int .i64 0, .int .i64 0, .int .i64 0, .bool false, .int .i64 0, .int .i64 0, .int .i64 0, .int .i64 0, .slice none 0 0, .int .i64 0, .int .i64 0, .int .i64 0, .int .i64 0, .int .i64 0, .int .i64 0, .int .i64 0, .int .i64 0, .slice none 0 0, .int .i64 0, .int .i64 0, .int .i64 0, .int .i64 0, .int .i64 0, .int .i64 0, .int .i64 0, .slice none 0 0, .int .i64 0, .int .i64 0, .int .i64 0] 73
  have a0 := hb1.cellv (j := 0) (v := .int .i64 4) rfl
  have a1 := hb1.cellv (j := 1) (v := .int .i64 tw) rfl
  clear hW hM hB1
  go_upto_region 2 with (first | (refine wpList_val rfl (bdP rfl rfl rfl) ?_) | (refine wpList_store_row info40 rfl rfl _ _ rfl W1.heap.size #[.int .i64 4, .int .i64 tw, .int .i64 0, .int .i64 0, .int .i64 0, .int .i64 0, .int .i64 0, .int .i64 0, .int .i64 0, .int .i64 0, .int .i64 0, .int .i64 0, .int .i64 0, .int .i64 0, .bool false, .int .i64 0, .int .i64 0, .int .i64 0, .int .i64 0, .slice none 0 0, .int .i64 0, .int .i64 0, .int .i64 0, .int .i64 0, .int .i64 0, .int .i64 0, .int .i64 0, .int .i64 0, .slice none 0 0, .int .i64 0, .int .i64 0, .int .i64 0, .int .i64 0, .int .i64 0, .int .i64 0, .int .i64 0, .slice none 0 0, .int .i64 0, .int .i64 0, .int .i64 0] rfl rfl hb3 rfl rfl rfl ?_; intro w2 hb3' hm2))
  have hmA := (Mod.refl (fun _ => False) W1).alloc (.cells #[.int .i64 0, .int .i64 0, .int .i64 0, .int .i64 0, .int .i64 0, .int .i64 0, .int .i64 0, .int .i64 0, .int .i64 0, .int .i64 0, .int .i64 0, .int .i64 0, .int .i64 0, .int .i64 0, .bool false, .int .i64 0, .int .i64 0, .int .i64 0, .int .i64 0, .slice none 0 0, .int .i64 0, .int .i64 0, .int .i64 0, .int .i64 0, .int .i64 0, .int .i64 0, .int .i64 0, .int .i64 0, .slice none 0 0, .int .i64 0, .int .i64 0, .int .i64 0, .int .i64 0, .int .i64 0, .int .i64 0, .int .i64 0, .slice none 0 0, .int .i64 0, .int .i64 0, .int .i64 0] 73)
  have hm3 : Mod (fun _ => False) w w2 := (hm1.and hmA).trans hm2 (V := fun _ => False) (fun _ _ h => h) (fun i hi h => by have := hm1.size; omega)
  have hb1' := (hb1.mod hmA (fun h => h)).mod hm2 (by omega)
  have hb2' := (hb2.mod hmA (fun h => h)).mod hm2 (by omega)
  have d0 := hb1'.cellv (j := 0) (v := .int .i64 4) rfl
  have hrg : w2.rangeAt w.heap.size 32 [.int .i64 rs, .int .i64 rr, .int .i64 mm, .int .i64 hp, .slice cao n ccap] := hb1'.range 32 _ (fun j v hj => by
    match j, hj with
    | 0, hj => simpa using hj
    | 1, hj => simpa using hj
    | 2, hj => simpa using hj
    | 3, hj => simpa using hj
    | 4, hj => simpa using hj
    | j + 5, hj => simp at hj)
  generalize W1.heap.size = b3 at *
  clear a0 a1 hb1 hb2 hb3 hm1 hmA hm2 hb1'
  go_upto_region 13 with (first | (refine wpList_load_rangeg infoC Try.underlying26 rfl rfl _ rfl w.heap.size 32 rfl [.int .i64 rs, .int .i64 rr, .int .i64 mm, .int .i64 hp, .slice cao n ccap] hrg rfl ?_; simp only [Act.put, List.setIfInBounds_toArray, List.set_cons_succ, List.set_cons_zero]) | (refine wpList_store_at infoC rfl rfl _ _ rfl b3 32 #[.int .i64 rs, .int .i64 rr, .int .i64 mm, .int .i64 hp, .slice cao n ccap] rfl rfl hb3' (by show 32 + 5 ≤ 40; omega) rfl rfl ?_; intro w4 hb4 hm4))
  rw [sets_px] at hb4
  have hb5 := hb2'.mod hm4 (by omega)
  have hm5 : Mod (fun _ => False) w w4 := hm3.trans hm4 (V := fun _ => False) (fun _ _ h => h) (fun i hi h => by omega)
  clear hb2' hm3 hm4 hb3' hrg d0
  go_wp2_with (first | (refine wpList_load_row info40 Try.underlying73 rfl rfl _ rfl b3 rfl hb4 rfl ?_) | (refine wpList_store_row info40 rfl rfl _ _ rfl (w.heap.size + 1) (pxC tw rs rr mm hp cao n ccap) rfl rfl hb5 rfl rfl rfl ?_; intro wF hbF hmF))
  exact bodyPost_ret (resT info40 Try.underlying73 rfl rfl rfl hbF rfl) rfl ⟨rfl, hm5.trans hmF (V := fun _ => False) (fun _ _ h => h) (fun i hi h => by omega)⟩
end Go.Proofs.Ytlekmgjjjniomaa
