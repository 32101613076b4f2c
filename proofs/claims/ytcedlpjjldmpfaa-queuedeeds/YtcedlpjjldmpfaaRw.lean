/- Contracts of the document's bytes, Pack and Copy. Conditions: sizes that a slice of bytes has. -/
import Derived.Test.YtcedlpjjldmpfaaRx
import Derived.Test.YtcedlpjjldmpfaaGa
import Derived.Test.YtcedlpjjldmpfaaCw
namespace Go.Proofs.Ytcedlpjjldmpfaa
open Go.RowKit
theorem packs_take {vs : List Int} {j x : Nat} (h : vs[j]? = some (x : Int)) : packs (vs.take (j + 1)) = packs (vs.take j) ++ enc x := by
  rw [List.take_add_one, h, packs_app]
  simp [packs]
theorem res1 {fn : Func} {pp : Tmp} (h : fn.results = #[.cell pp 40]) {tmps : Array Value} {w : World} {b : Nat} {xs : Array Value} (hp : tmps.getD pp undef = .pointer (some ⟨b, 0, none⟩)) (hb : Bk w b 40 xs) (hs : xs.size = 13) :
    (results fn tmps).run Try.prog w = .ok (.agg xs) w := by
  rw [results_cell1 h, hp]
  have hl := run_loadVar_mid (P := Try.prog) w b 0 40 xs.toList _ hb.row Try.underlying40 rfl (by rw [info13]; simp [hs])
  simp only [asAddr, Sem.run_pure, Result.andThen]
  rw [hl]
set_option maxRecDepth 100000 in
set_option maxHeartbeats 4000000 in
theorem dCopy (k o lf i p ps g : Int) (s : Bool) (st rs rr sq : Int) (ao : Option Addr) (cap : Nat) (l : List Int) (w : World) (hs : Sl w (.slice ao l.length cap) l) (hb : l.length ≤ 140737488355328) :
    Calls Try.prog 24 #[.agg #[.int .i64 k, .int .i64 o, .int .i64 lf, .int .i64 i, .int .i64 p, .int .i64 ps, .int .i64 g, .bool s, .int .i64 st, .int .i64 rs, .int .i64 rr, .int .i64 sq, .slice ao l.length cap]] w fun e w' => ∃ ao' cap', e = .returned (.agg #[.int .i64 k, .int .i64 o, .int .i64 lf, .int .i64 i, .int .i64 p, .int .i64 ps, .int .i64 g, .bool s, .int .i64 st, .int .i64 rs, .int .i64 rr, .int .i64 sq, .slice ao' l.length cap']) ∧ Own w' (.slice ao' l.length cap') l ∧ Mod (fun _ => False) w w' ∧ (∀ g, (Value.slice ao' l.length cap').ownBlock = some g → w.heap.size ≤ g) := by
  have hA := (((Mod.refl (fun _ => False) w).alloc (.cells #[.int .i64 k, .int .i64 o, .int .i64 lf, .int .i64 i, .int .i64 p, .int .i64 ps, .int .i64 g, .bool s, .int .i64 st, .int .i64 rs, .int .i64 rr, .int .i64 sq, .slice ao l.length cap] 40)).alloc (.cells #[.int .i64 0, .int .i64 0, .int .i64 0, .int .i64 0, .int .i64 0, .int .i64 0, .int .i64 0, .bool false, .int .i64 0, .int .i64 0, .int .i64 0, .int .i64 0, .slice none 0 0] 40)).alloc (.cells #[.int .i64 k, .int .i64 o, .int .i64 lf, .int .i64 i, .int .i64 p, .int .i64 ps, .int .i64 g, .bool s, .int .i64 st, .int .i64 rs, .int .i64 rr, .int .i64 sq, .slice ao l.length cap] 40)
  have hZ := (Bk.new (w.alloc (.cells #[.int .i64 k, .int .i64 o, .int .i64 lf, .int .i64 i, .int .i64 p, .int .i64 ps, .int .i64 g, .bool s, .int .i64 st, .int .i64 rs, .int .i64 rr, .int .i64 sq, .slice ao l.length cap] 40)) #[.int .i64 0, .int .i64 0, .int .i64 0, .int .i64 0, .int .i64 0, .int .i64 0, .int .i64 0, .bool false, .int .i64 0, .int .i64 0, .int .i64 0, .int .i64 0, .slice none 0 0] 40).mod ((Mod.refl (fun _ => False) _).alloc (.cells #[.int .i64 k, .int .i64 o, .int .i64 lf, .int .i64 i, .int .i64 p, .int .i64 ps, .int .i64 g, .bool s, .int .i64 st, .int .i64 rs, .int .i64 rr, .int .i64 sq, .slice ao l.length cap] 40)) (fun h => h)
  have hO := Bk.new ((w.alloc (.cells #[.int .i64 k, .int .i64 o, .int .i64 lf, .int .i64 i, .int .i64 p, .int .i64 ps, .int .i64 g, .bool s, .int .i64 st, .int .i64 rs, .int .i64 rr, .int .i64 sq, .slice ao l.length cap] 40)).alloc (.cells #[.int .i64 0, .int .i64 0, .int .i64 0, .int .i64 0, .int .i64 0, .int .i64 0, .int .i64 0, .bool false, .int .i64 0, .int .i64 0, .int .i64 0, .int .i64 0, .slice none 0 0] 40)) #[.int .i64 k, .int .i64 o, .int .i64 lf, .int .i64 i, .int .i64 p, .int .i64 ps, .int .i64 g, .bool s, .int .i64 st, .int .i64 rs, .int .i64 rr, .int .i64 sq, .slice ao l.length cap] 40
  have e1 : (w.alloc (.cells #[.int .i64 k, .int .i64 o, .int .i64 lf, .int .i64 i, .int .i64 p, .int .i64 ps, .int .i64 g, .bool s, .int .i64 st, .int .i64 rs, .int .i64 rr, .int .i64 sq, .slice ao l.length cap] 40)).heap.size = w.heap.size + 1 := by simp
  have e2 : ((w.alloc (.cells #[.int .i64 k, .int .i64 o, .int .i64 lf, .int .i64 i, .int .i64 p, .int .i64 ps, .int .i64 g, .bool s, .int .i64 st, .int .i64 rs, .int .i64 rr, .int .i64 sq, .slice ao l.length cap] 40)).alloc (.cells #[.int .i64 0, .int .i64 0, .int .i64 0, .int .i64 0, .int .i64 0, .int .i64 0, .int .i64 0, .bool false, .int .i64 0, .int .i64 0, .int .i64 0, .int .i64 0, .slice none 0 0] 40)).heap.size = w.heap.size + 1 + 1 := by simp
  have e3 : (((w.alloc (.cells #[.int .i64 k, .int .i64 o, .int .i64 lf, .int .i64 i, .int .i64 p, .int .i64 ps, .int .i64 g, .bool s, .int .i64 st, .int .i64 rs, .int .i64 rr, .int .i64 sq, .slice ao l.length cap] 40)).alloc (.cells #[.int .i64 0, .int .i64 0, .int .i64 0, .int .i64 0, .int .i64 0, .int .i64 0, .int .i64 0, .bool false, .int .i64 0, .int .i64 0, .int .i64 0, .int .i64 0, .slice none 0 0] 40)).alloc (.cells #[.int .i64 k, .int .i64 o, .int .i64 lf, .int .i64 i, .int .i64 p, .int .i64 ps, .int .i64 g, .bool s, .int .i64 st, .int .i64 rs, .int .i64 rr, .int .i64 sq, .slice ao l.length cap] 40)).heap.size = w.heap.size + 3 := by simp
  rw [e1] at hZ
  rw [e2] at hO
  have HCp := copy_any (.slice ao l.length cap) l _ (hs.mod hA (fun _ _ h => h)) hb
  have HZ : Hid (Bk _ _ _ _) := hZ
  have HO : Hid (Bk _ _ _ _) := hO
  clear hZ hO e1 e2
  go_enter Try.func24, Try.ntmps24
  go_wp2_with (fail)
  refine HCp.mono ?_
  rintro e w1 ⟨v1, rfl, ho1, hm1, hf1⟩
  obtain ⟨ao', cap', rfl⟩ := ho1.shape
  have hm := hA.trans hm1 (V := fun _ => False) (fun _ _ h => h) (fun _ _ h => h)
  have hZ1 := HZ.out.mod hm1 (fun h => h)
  have hO1 := HO.out.mod hm1 (fun h => h)
  have c12 := hO1.cellv (j := 12) rfl
  have f12 := hO1.frz 12
  have hO2 := hO1.set 12 (.slice ao' l.length cap')
  simp only [List.setIfInBounds_toArray, List.set_cons_succ, List.set_cons_zero] at hO2
  have hZ2 := hZ1.other ⟨w.heap.size + 1 + 1, 12, none⟩ (.slice ao' l.length cap') (by simp)
  have hS := (Mod.refl (fun q => q = w.heap.size + 1 + 1) w1).setCell ⟨w.heap.size + 1 + 1, 12, none⟩ (.slice ao' l.length cap') (.inl rfl)
  have HM2 : Hid (Mod (fun _ => False) w _) := hm.trans hS (V := fun _ => False) (fun _ _ h => h) (fun q hq h => by omega)
  have HN2 : Hid (Own _ _ _) := ho1.mod hS (fun q hq e => by have := hf1 q hq; omega)
  have HO2 : Hid (Bk _ _ _ _) := hO2
  have HZ2 : Hid (Bk _ _ _ _) := hZ2
  have HF : Hid (∀ q, (Value.slice ao' l.length cap').ownBlock = some q → w.heap.size + 3 ≤ q) := fun q hq => by have := hf1 q hq; omega
  clear hZ1 hO1 hO2 hZ2 hm hm1 ho1 hA HCp HZ HO hf1 e3 hS
  go_wp2_with (first | (refine wpList_load_row info13 Try.underlying40 rfl rfl _ rfl (w.heap.size + 1 + 1) rfl HO2.out rfl ?_; simp only [Act.put, List.setIfInBounds_toArray, List.set_cons_succ, List.set_cons_zero]) | (refine wpList_store_row info13 rfl rfl _ _ rfl (w.heap.size + 1) #[.int .i64 k, .int .i64 o, .int .i64 lf, .int .i64 i, .int .i64 p, .int .i64 ps, .int .i64 g, .bool s, .int .i64 st, .int .i64 rs, .int .i64 rr, .int .i64 sq, .slice ao' l.length cap'] rfl rfl HZ2.out rfl rfl rfl ?_; intro wF hBF hMF))
  exact bodyPost_ret (res1 rfl rfl hBF rfl) rfl ⟨ao', cap', rfl, HN2.out.mod hMF (fun q hq e => by have := HF.out q hq; omega), HM2.out.trans hMF (V := fun _ => False) (fun _ _ h => h) (fun q hq h => by omega), fun q hq => by have := HF.out q hq; omega⟩
end Go.Proofs.Ytcedlpjjldmpfaa
