/- Contract of parcel's Inner. Conditions: sizes that a slice of bytes has. -/
import Derived.Test.YthiijonmnebjgaaGreatCo
import Derived.Test.YthiijonmnebjgaaGreatWi
namespace Go.Proofs.YthiijonmnebjgaaGreat
open Go.RowKit
theorem info18 : (Tryz.prog.info? 45).map (·.size) = some 18 := by kernel_rfl
/-- Data as a result through a cell. -/
theorem res18 {fn : Func} {pp u : Tmp} (h : fn.results = #[.cell pp 45, .tmp u]) {tmps : Array Value} {w : World} {b : Nat} {xs : Array Value} {v : Value} (hp : tmps.getD pp undef = .pointer (some ⟨b, 0, none⟩)) (hv : tmps.getD u undef = v) (hb : Bk w b 45 xs) (hs : xs.size = 18) :
    (results fn tmps).run Tryz.prog w = .ok (.tuple #[.agg xs, v]) w := by
  rw [results_cell_tmp h, hp, hv]
  have hl := run_loadVar_mid (P := Tryz.prog) w b 0 45 xs.toList _ hb.row Tryz.underlying45 rfl (by rw [info18]; simp [hs])
  simp only [asAddr, Sem.run_pure, Result.andThen]
  rw [hl]
set_option maxRecDepth 100000 in
set_option maxHeartbeats 4000000 in
theorem Inner_k (k o lf i p ps g : Int) (s : Bool) (st rs rr sq : Int) (ao : Option Addr) (cap : Nat) (l : List Int) (w : World) (hs : Sl w (.slice ao l.length cap) l) (hk : ¬ k = 5) :
    Calls Tryz.prog 44 #[.agg #[.int .i64 k, .int .i64 o, .int .i64 lf, .int .i64 i, .int .i64 p, .int .i64 ps, .int .i64 g, .bool s, .int .i64 st, .int .i64 rs, .int .i64 rr, .int .i64 sq, (.slice ao l.length cap)]] w fun e w' => ∃ dq dr ds dn dt k' o' lf' i' p' ps' g' s' st' rs' rr' sq' bv', e = .returned (.tuple #[.agg #[.int .i64 dq, .int .i64 dr, .int .i64 ds, .int .i64 dn, .int .i64 dt, .int .i64 k', .int .i64 o', .int .i64 lf', .int .i64 i', .int .i64 p', .int .i64 ps', .int .i64 g', .bool s', .int .i64 st', .int .i64 rs', .int .i64 rr', .int .i64 sq', bv'], .int .i64 (inE ⟨k, o, lf, i, p, ps, g, s, st, rs, rr, sq, l⟩)]) ∧ Mod (fun _ => False) w w' ∧
      (inE ⟨k, o, lf, i, p, ps, g, s, st, rs, rr, sq, l⟩ = 0 → (dq = rs ∧ dr = rr ∧ ds = sq ∧ dn = i ∧ dt = st) ∧ Ms.mk k' o' lf' i' p' ps' g' s' st' rs' rr' sq' (prM l).body = prM l ∧ Own w' bv' (prM l).body ∧ (∀ g, bv'.ownBlock = some g → w.heap.size ≤ g)) ∧
      (inE ⟨k, o, lf, i, p, ps, g, s, st, rs, rr, sq, l⟩ ≠ 0 → (dq = 0 ∧ dr = 0 ∧ ds = 0 ∧ dn = 0 ∧ dt = 0 ∧ k' = 0 ∧ o' = 0 ∧ lf' = 0 ∧ i' = 0 ∧ p' = 0 ∧ ps' = 0 ∧ g' = 0 ∧ s' = false ∧ st' = 0 ∧ rs' = 0 ∧ rr' = 0 ∧ sq' = 0 ∧ bv' = .slice none 0 0)) := by
  have hA := ((Mod.refl (fun _ => False) w).alloc (.cells #[.int .i64 k, .int .i64 o, .int .i64 lf, .int .i64 i, .int .i64 p, .int .i64 ps, .int .i64 g, .bool s, .int .i64 st, .int .i64 rs, .int .i64 rr, .int .i64 sq, (.slice ao l.length cap)] 43)).alloc (.cells #[.int .i64 0, .int .i64 0, .int .i64 0, .int .i64 0, .int .i64 0, .int .i64 0, .int .i64 0, .int .i64 0, .int .i64 0, .int .i64 0, .int .i64 0, .int .i64 0, .bool false, .int .i64 0, .int .i64 0, .int .i64 0, .int .i64 0, (.slice none 0 0)] 45)
  have hB0 : Bk ((w.alloc (.cells #[.int .i64 k, .int .i64 o, .int .i64 lf, .int .i64 i, .int .i64 p, .int .i64 ps, .int .i64 g, .bool s, .int .i64 st, .int .i64 rs, .int .i64 rr, .int .i64 sq, (.slice ao l.length cap)] 43)).alloc (.cells #[.int .i64 0, .int .i64 0, .int .i64 0, .int .i64 0, .int .i64 0, .int .i64 0, .int .i64 0, .int .i64 0, .int .i64 0, .int .i64 0, .int .i64 0, .int .i64 0, .bool false, .int .i64 0, .int .i64 0, .int .i64 0, .int .i64 0, (.slice none 0 0)] 45)) (w.heap.size + 1) 45 #[.int .i64 0, .int .i64 0, .int .i64 0, .int .i64 0, .int .i64 0, .int .i64 0, .int .i64 0, .int .i64 0, .int .i64 0, .int .i64 0, .int .i64 0, .int .i64 0, .bool false, .int .i64 0, .int .i64 0, .int .i64 0, .int .i64 0, (.slice none 0 0)] := by
    have := Bk.new (w.alloc (.cells #[.int .i64 k, .int .i64 o, .int .i64 lf, .int .i64 i, .int .i64 p, .int .i64 ps, .int .i64 g, .bool s, .int .i64 st, .int .i64 rs, .int .i64 rr, .int .i64 sq, (.slice ao l.length cap)] 43)) #[.int .i64 0, .int .i64 0, .int .i64 0, .int .i64 0, .int .i64 0, .int .i64 0, .int .i64 0, .int .i64 0, .int .i64 0, .int .i64 0, .int .i64 0, .int .i64 0, .bool false, .int .i64 0, .int .i64 0, .int .i64 0, .int .i64 0, (.slice none 0 0)] 45
    rwa [show (w.alloc (.cells #[.int .i64 k, .int .i64 o, .int .i64 lf, .int .i64 i, .int .i64 p, .int .i64 ps, .int .i64 g, .bool s, .int .i64 st, .int .i64 rs, .int .i64 rr, .int .i64 sq, (.slice ao l.length cap)] 43)).heap.size = w.heap.size + 1 from by simp] at this
  have hs0 := hs.mod hA (fun _ _ h => h)
  have HB : Hid (Bk _ _ _ _) := hB0
  have HA : Hid (Mod _ _ _) := hA
  unfold inE
  dsimp only
  rw [if_neg (fun h => hk h.1)]
  have hkn : (k != 5) = true := by simp [hk]
  clear hB0 hs0 hA
  go_enter Tryz.func44, Tryz.ntmps44
  go_wp2_with (refine wpList_store_row info18 rfl rfl _ _ rfl (w.heap.size + 1) #[.int .i64 0, .int .i64 0, .int .i64 0, .int .i64 0, .int .i64 0, .int .i64 0, .int .i64 0, .int .i64 0, .int .i64 0, .int .i64 0, .int .i64 0, .int .i64 0, .bool false, .int .i64 0, .int .i64 0, .int .i64 0, .int .i64 0, (.slice none 0 0)] rfl rfl HB.out rfl rfl rfl ?_; intro wF hBF hMF)
  exact bodyPost_ret (res18 rfl rfl rfl hBF rfl) rfl ⟨_, _, _, _, _, _, _, _, _, _, _, _, _, _, _, _, _, _, rfl, HA.out.trans hMF (V := fun _ => False) (fun _ _ h => h) (fun _ hi h => by omega), fun h => absurd h (by decide), fun _ => ⟨rfl, rfl, rfl, rfl, rfl, rfl, rfl, rfl, rfl, rfl, rfl, rfl, rfl, rfl, rfl, rfl, rfl, rfl⟩⟩
set_option maxRecDepth 100000 in
set_option maxHeartbeats 4000000 in
theorem Inner_c (o lf i p ps g : Int) (s : Bool) (st rs rr sq : Int) (ao : Option Addr) (cap : Nat) (l : List Int) (w : World) (hs : Sl w (.slice ao l.length cap) l) (hc : ¬ chk ⟨5, o, lf, i, p, ps, g, s, st, rs, rr, sq, l⟩ = 0) :
    Calls Tryz.prog 44 #[.agg #[.int .i64 5, .int .i64 o, .int .i64 lf, .int .i64 i, .int .i64 p, .int .i64 ps, .int .i64 g, .bool s, .int .i64 st, .int .i64 rs, .int .i64 rr, .int .i64 sq, (.slice ao l.length cap)]] w fun e w' => ∃ dq dr ds dn dt k' o' lf' i' p' ps' g' s' st' rs' rr' sq' bv', e = .returned (.tuple #[.agg #[.int .i64 dq, .int .i64 dr, .int .i64 ds, .int .i64 dn, .int .i64 dt, .int .i64 k', .int .i64 o', .int .i64 lf', .int .i64 i', .int .i64 p', .int .i64 ps', .int .i64 g', .bool s', .int .i64 st', .int .i64 rs', .int .i64 rr', .int .i64 sq', bv'], .int .i64 (inE ⟨5, o, lf, i, p, ps, g, s, st, rs, rr, sq, l⟩)]) ∧ Mod (fun _ => False) w w' ∧
      (inE ⟨5, o, lf, i, p, ps, g, s, st, rs, rr, sq, l⟩ = 0 → (dq = rs ∧ dr = rr ∧ ds = sq ∧ dn = i ∧ dt = st) ∧ Ms.mk k' o' lf' i' p' ps' g' s' st' rs' rr' sq' (prM l).body = prM l ∧ Own w' bv' (prM l).body ∧ (∀ g, bv'.ownBlock = some g → w.heap.size ≤ g)) ∧
      (inE ⟨5, o, lf, i, p, ps, g, s, st, rs, rr, sq, l⟩ ≠ 0 → (dq = 0 ∧ dr = 0 ∧ ds = 0 ∧ dn = 0 ∧ dt = 0 ∧ k' = 0 ∧ o' = 0 ∧ lf' = 0 ∧ i' = 0 ∧ p' = 0 ∧ ps' = 0 ∧ g' = 0 ∧ s' = false ∧ st' = 0 ∧ rs' = 0 ∧ rr' = 0 ∧ sq' = 0 ∧ bv' = .slice none 0 0)) := by
  have hA := ((Mod.refl (fun _ => False) w).alloc (.cells #[.int .i64 5, .int .i64 o, .int .i64 lf, .int .i64 i, .int .i64 p, .int .i64 ps, .int .i64 g, .bool s, .int .i64 st, .int .i64 rs, .int .i64 rr, .int .i64 sq, (.slice ao l.length cap)] 43)).alloc (.cells #[.int .i64 0, .int .i64 0, .int .i64 0, .int .i64 0, .int .i64 0, .int .i64 0, .int .i64 0, .int .i64 0, .int .i64 0, .int .i64 0, .int .i64 0, .int .i64 0, .bool false, .int .i64 0, .int .i64 0, .int .i64 0, .int .i64 0, (.slice none 0 0)] 45)
  have hB0 : Bk ((w.alloc (.cells #[.int .i64 5, .int .i64 o, .int .i64 lf, .int .i64 i, .int .i64 p, .int .i64 ps, .int .i64 g, .bool s, .int .i64 st, .int .i64 rs, .int .i64 rr, .int .i64 sq, (.slice ao l.length cap)] 43)).alloc (.cells #[.int .i64 0, .int .i64 0, .int .i64 0, .int .i64 0, .int .i64 0, .int .i64 0, .int .i64 0, .int .i64 0, .int .i64 0, .int .i64 0, .int .i64 0, .int .i64 0, .bool false, .int .i64 0, .int .i64 0, .int .i64 0, .int .i64 0, (.slice none 0 0)] 45)) (w.heap.size + 1) 45 #[.int .i64 0, .int .i64 0, .int .i64 0, .int .i64 0, .int .i64 0, .int .i64 0, .int .i64 0, .int .i64 0, .int .i64 0, .int .i64 0, .int .i64 0, .int .i64 0, .bool false, .int .i64 0, .int .i64 0, .int .i64 0, .int .i64 0, (.slice none 0 0)] := by
    have := Bk.new (w.alloc (.cells #[.int .i64 5, .int .i64 o, .int .i64 lf, .int .i64 i, .int .i64 p, .int .i64 ps, .int .i64 g, .bool s, .int .i64 st, .int .i64 rs, .int .i64 rr, .int .i64 sq, (.slice ao l.length cap)] 43)) #[.int .i64 0, .int .i64 0, .int .i64 0, .int .i64 0, .int .i64 0, .int .i64 0, .int .i64 0, .int .i64 0, .int .i64 0, .int .i64 0, .int .i64 0, .int .i64 0, .bool false, .int .i64 0, .int .i64 0, .int .i64 0, .int .i64 0, (.slice none 0 0)] 45
    rwa [show (w.alloc (.cells #[.int .i64 5, .int .i64 o, .int .i64 lf, .int .i64 i, .int .i64 p, .int .i64 ps, .int .i64 g, .bool s, .int .i64 st, .int .i64 rs, .int .i64 rr, .int .i64 sq, (.slice ao l.length cap)] 43)).heap.size = w.heap.size + 1 from by simp] at this
  have hs0 := hs.mod hA (fun _ _ h => h)
  have HC := fun W h => Check_any 5 o lf i p ps g s st rs rr sq ao cap l W h
  unfold inE
  dsimp only
  rw [if_neg (fun h => hc h.2)]
  generalize chk ⟨5, o, lf, i, p, ps, g, s, st, rs, rr, sq, l⟩ = E at HC hc
  have hen : (E != 0) = true := by simp [hc]
  have HB0 : Hid (Bk _ _ _ _) := hB0
  clear hB0
  go_enter Tryz.func44, Tryz.ntmps44
  go_wp2_with (fail)
  refine (HC _ hs0).mono ?_
  rintro e w1 ⟨rfl, hm1⟩
  have HA : Hid (Mod _ _ _) := hA.trans hm1 (V := fun _ => False) (fun _ _ h => h) (fun _ _ h => h)
  have HB : Hid (Bk _ _ _ _) := HB0.out.mod hm1 (fun h => h)
  clear hA hs0 HC HB0
  go_wp2_with (refine wpList_store_row info18 rfl rfl _ _ rfl (w.heap.size + 1) #[.int .i64 0, .int .i64 0, .int .i64 0, .int .i64 0, .int .i64 0, .int .i64 0, .int .i64 0, .int .i64 0, .int .i64 0, .int .i64 0, .int .i64 0, .int .i64 0, .bool false, .int .i64 0, .int .i64 0, .int .i64 0, .int .i64 0, (.slice none 0 0)] rfl rfl HB.out rfl rfl rfl ?_; intro wF hBF hMF)
  exact bodyPost_ret (res18 rfl rfl rfl hBF rfl) rfl ⟨_, _, _, _, _, _, _, _, _, _, _, _, _, _, _, _, _, _, rfl, HA.out.trans hMF (V := fun _ => False) (fun _ _ h => h) (fun _ hi h => by omega), fun h => absurd h (by decide), fun _ => ⟨rfl, rfl, rfl, rfl, rfl, rfl, rfl, rfl, rfl, rfl, rfl, rfl, rfl, rfl, rfl, rfl, rfl, rfl⟩⟩
set_option maxRecDepth 100000 in
set_option maxHeartbeats 4000000 in
theorem Inner_ok (o lf i p ps g : Int) (s : Bool) (st rs rr sq : Int) (ao : Option Addr) (cap : Nat) (l : List Int) (w : World) (hs : Sl w (.slice ao l.length cap) l) (hc : chk ⟨5, o, lf, i, p, ps, g, s, st, rs, rr, sq, l⟩ = 0) :
    Calls Tryz.prog 44 #[.agg #[.int .i64 5, .int .i64 o, .int .i64 lf, .int .i64 i, .int .i64 p, .int .i64 ps, .int .i64 g, .bool s, .int .i64 st, .int .i64 rs, .int .i64 rr, .int .i64 sq, (.slice ao l.length cap)]] w fun e w' => ∃ dq dr ds dn dt k' o' lf' i' p' ps' g' s' st' rs' rr' sq' bv', e = .returned (.tuple #[.agg #[.int .i64 dq, .int .i64 dr, .int .i64 ds, .int .i64 dn, .int .i64 dt, .int .i64 k', .int .i64 o', .int .i64 lf', .int .i64 i', .int .i64 p', .int .i64 ps', .int .i64 g', .bool s', .int .i64 st', .int .i64 rs', .int .i64 rr', .int .i64 sq', bv'], .int .i64 (inE ⟨5, o, lf, i, p, ps, g, s, st, rs, rr, sq, l⟩)]) ∧ Mod (fun _ => False) w w' ∧
      (inE ⟨5, o, lf, i, p, ps, g, s, st, rs, rr, sq, l⟩ = 0 → (dq = rs ∧ dr = rr ∧ ds = sq ∧ dn = i ∧ dt = st) ∧ Ms.mk k' o' lf' i' p' ps' g' s' st' rs' rr' sq' (prM l).body = prM l ∧ Own w' bv' (prM l).body ∧ (∀ g, bv'.ownBlock = some g → w.heap.size ≤ g)) ∧
      (inE ⟨5, o, lf, i, p, ps, g, s, st, rs, rr, sq, l⟩ ≠ 0 → (dq = 0 ∧ dr = 0 ∧ ds = 0 ∧ dn = 0 ∧ dt = 0 ∧ k' = 0 ∧ o' = 0 ∧ lf' = 0 ∧ i' = 0 ∧ p' = 0 ∧ ps' = 0 ∧ g' = 0 ∧ s' = false ∧ st' = 0 ∧ rs' = 0 ∧ rr' = 0 ∧ sq' = 0 ∧ bv' = .slice none 0 0)) := by
  have hA := ((Mod.refl (fun _ => False) w).alloc (.cells #[.int .i64 5, .int .i64 o, .int .i64 lf, .int .i64 i, .int .i64 p, .int .i64 ps, .int .i64 g, .bool s, .int .i64 st, .int .i64 rs, .int .i64 rr, .int .i64 sq, (.slice ao l.length cap)] 43)).alloc (.cells #[.int .i64 0, .int .i64 0, .int .i64 0, .int .i64 0, .int .i64 0, .int .i64 0, .int .i64 0, .int .i64 0, .int .i64 0, .int .i64 0, .int .i64 0, .int .i64 0, .bool false, .int .i64 0, .int .i64 0, .int .i64 0, .int .i64 0, (.slice none 0 0)] 45)
  have hB0 : Bk ((w.alloc (.cells #[.int .i64 5, .int .i64 o, .int .i64 lf, .int .i64 i, .int .i64 p, .int .i64 ps, .int .i64 g, .bool s, .int .i64 st, .int .i64 rs, .int .i64 rr, .int .i64 sq, (.slice ao l.length cap)] 43)).alloc (.cells #[.int .i64 0, .int .i64 0, .int .i64 0, .int .i64 0, .int .i64 0, .int .i64 0, .int .i64 0, .int .i64 0, .int .i64 0, .int .i64 0, .int .i64 0, .int .i64 0, .bool false, .int .i64 0, .int .i64 0, .int .i64 0, .int .i64 0, (.slice none 0 0)] 45)) (w.heap.size + 1) 45 #[.int .i64 0, .int .i64 0, .int .i64 0, .int .i64 0, .int .i64 0, .int .i64 0, .int .i64 0, .int .i64 0, .int .i64 0, .int .i64 0, .int .i64 0, .int .i64 0, .bool false, .int .i64 0, .int .i64 0, .int .i64 0, .int .i64 0, (.slice none 0 0)] := by
    have := Bk.new (w.alloc (.cells #[.int .i64 5, .int .i64 o, .int .i64 lf, .int .i64 i, .int .i64 p, .int .i64 ps, .int .i64 g, .bool s, .int .i64 st, .int .i64 rs, .int .i64 rr, .int .i64 sq, (.slice ao l.length cap)] 43)) #[.int .i64 0, .int .i64 0, .int .i64 0, .int .i64 0, .int .i64 0, .int .i64 0, .int .i64 0, .int .i64 0, .int .i64 0, .int .i64 0, .int .i64 0, .int .i64 0, .bool false, .int .i64 0, .int .i64 0, .int .i64 0, .int .i64 0, (.slice none 0 0)] 45
    rwa [show (w.alloc (.cells #[.int .i64 5, .int .i64 o, .int .i64 lf, .int .i64 i, .int .i64 p, .int .i64 ps, .int .i64 g, .bool s, .int .i64 st, .int .i64 rs, .int .i64 rr, .int .i64 sq, (.slice ao l.length cap)] 43)).heap.size = w.heap.size + 1 from by simp] at this
  have hs0 := hs.mod hA (fun _ _ h => h)
  have HC := fun W h => Check_any 5 o lf i p ps g s st rs rr sq ao cap l W h
  have hm00 := MB.new w 5 o lf i p ps g s st rs rr sq (.slice ao l.length cap)
  have hm0 := hm00.mod ((Mod.refl (fun _ => False) _).alloc (.cells #[.int .i64 0, .int .i64 0, .int .i64 0, .int .i64 0, .int .i64 0, .int .i64 0, .int .i64 0, .int .i64 0, .int .i64 0, .int .i64 0, .int .i64 0, .int .i64 0, .bool false, .int .i64 0, .int .i64 0, .int .i64 0, .int .i64 0, (.slice none 0 0)] 45)) (fun h => h)
  clear hm00
  unfold inE
  dsimp only
  rw [if_pos ⟨rfl, hc⟩]
  obtain ⟨hb160, _, hkd⟩ := chk_parts hc
  rw [kd, if_pos (show (Ms.mk 5 o lf i p ps g s st rs rr sq l).kind = 5 from rfl), od] at hkd
  simp only [Bool.and_eq_true] at hkd
  have hin := hkd.2
  rw [in0_eq] at hin
  simp only [Bool.and_eq_true, beq_iff_eq] at hin
  have hun : unE l = 0 := hin.1
  have HU := fun W h => Unpack_any (.slice ao l.length cap) l W h (by dsimp only at hb160; omega)
  unfold Unp at HU
  rw [hc] at HC
  rw [hun] at HU
  have hbr : ∀ c ∈ (prM l).body, 0 ≤ c ∧ c ≤ 255 := fun c hc => hs.rng c (pr_mem l c hc)
  generalize prM l = m at HU hbr ⊢
  clear hc hb160 hkd hin hun
  obtain ⟨k1, o1, lf1, i1, p1, ps1, g1, s1, st1, rs1, rr1, sq1, l1⟩ := m
  dsimp only at HU hbr ⊢
  have HB0 : Hid (Bk _ _ _ _) := hB0
  clear hB0
  go_enter Tryz.func44, Tryz.ntmps44
  go_wp2_with (fail)
  refine (HC _ hs0).mono ?_
  rintro e w1 ⟨rfl, hm1⟩
  have hA1 := hA.trans hm1 (V := fun _ => False) (fun _ _ h => h) (fun _ _ h => h)
  have HB1 : Hid (Bk _ _ _ _) := HB0.out.mod hm1 (fun h => h)
  have hb1 := hm0.mod hm1 (fun h => h)
  obtain ⟨a0, a1, a2, a3, a4, a5, a6, a7, a8, a9, a10, a11, a12⟩ := hb1.cells
  have hsz1 : w.heap.size + 2 ≤ w1.heap.size := by have := hm1.size; simp at this; omega
  clear HB0 hs0 HC
  go_wp2_with (fail)
  refine (HU _ (hs.mod hA1 (fun _ _ h => h))).mono ?_
  rintro e w2 ⟨k2, o2, lf2, i2, p2, ps2, g2, s2, st2, rs2, rr2, sq2, bv2, rfl, hm2, hok, _⟩
  obtain ⟨he, ho, hf⟩ := hok trivial
  simp only [Ms.mk.injEq] at he
  obtain ⟨rfl, rfl, rfl, rfl, rfl, rfl, rfl, rfl, rfl, rfl, rfl, rfl, _⟩ := he
  obtain ⟨ao2, cap2, rfl⟩ := ho.shape
  have hsz2 := hm2.size
  have hD3 := (Mod.refl (fun _ => False) w2).alloc (.cells #[.int .i64 k2, .int .i64 o2, .int .i64 lf2, .int .i64 i2, .int .i64 p2, .int .i64 ps2, .int .i64 g2, .bool s2, .int .i64 st2, .int .i64 rs2, .int .i64 rr2, .int .i64 sq2, (.slice ao2 l1.length cap2)] 43)
  have hD4 := hD3.alloc (.cells #[.int .i64 0, .int .i64 0, .int .i64 0, .int .i64 0, .int .i64 0, .int .i64 0, .int .i64 0, .int .i64 0, .int .i64 0, .int .i64 0, .int .i64 0, .int .i64 0, .bool false, .int .i64 0, .int .i64 0, .int .i64 0, .int .i64 0, (.slice none 0 0)] 45)
  have HA4 : Hid (Mod _ _ _) := (hA1.trans hm2 (V := fun _ => False) (fun _ _ h => h) (fun _ _ h => h)).trans hD4 (V := fun _ => False) (fun _ _ h => h) (fun _ _ h => h)
  have hb4 := (hb1.mod hm2 (fun h => h)).mod hD3 (fun h => h)
  have HZ4 : Hid (Bk _ _ _ _) := (HB1.out.mod hm2 (fun h => h)).mod hD4 (fun h => h)
  have HO4 : Hid (Own _ _ _) := ho.mod hD4 (fun _ _ h => h)
  have HB4 : Hid (Bk ((w2.alloc (.cells #[.int .i64 k2, .int .i64 o2, .int .i64 lf2, .int .i64 i2, .int .i64 p2, .int .i64 ps2, .int .i64 g2, .bool s2, .int .i64 st2, .int .i64 rs2, .int .i64 rr2, .int .i64 sq2, (.slice ao2 l1.length cap2)] 43)).alloc (.cells #[.int .i64 0, .int .i64 0, .int .i64 0, .int .i64 0, .int .i64 0, .int .i64 0, .int .i64 0, .int .i64 0, .int .i64 0, .int .i64 0, .int .i64 0, .int .i64 0, .bool false, .int .i64 0, .int .i64 0, .int .i64 0, .int .i64 0, (.slice none 0 0)] 45)) (w2.heap.size + 1) 45 #[.int .i64 0, .int .i64 0, .int .i64 0, .int .i64 0, .int .i64 0, .int .i64 0, .int .i64 0, .int .i64 0, .int .i64 0, .int .i64 0, .int .i64 0, .int .i64 0, .bool false, .int .i64 0, .int .i64 0, .int .i64 0, .int .i64 0, (.slice none 0 0)]) := by
    have := Bk.new (w2.alloc (.cells #[.int .i64 k2, .int .i64 o2, .int .i64 lf2, .int .i64 i2, .int .i64 p2, .int .i64 ps2, .int .i64 g2, .bool s2, .int .i64 st2, .int .i64 rs2, .int .i64 rr2, .int .i64 sq2, (.slice ao2 l1.length cap2)] 43)) #[.int .i64 0, .int .i64 0, .int .i64 0, .int .i64 0, .int .i64 0, .int .i64 0, .int .i64 0, .int .i64 0, .int .i64 0, .int .i64 0, .int .i64 0, .int .i64 0, .bool false, .int .i64 0, .int .i64 0, .int .i64 0, .int .i64 0, (.slice none 0 0)] 45
    rwa [show (w2.alloc (.cells #[.int .i64 k2, .int .i64 o2, .int .i64 lf2, .int .i64 i2, .int .i64 p2, .int .i64 ps2, .int .i64 g2, .bool s2, .int .i64 st2, .int .i64 rs2, .int .i64 rr2, .int .i64 sq2, (.slice ao2 l1.length cap2)] 43)).heap.size = w2.heap.size + 1 from by simp] at this
  clear a0 a1 a2 a3 a4 a5 a6 a7 a8 a9 a10 a11 a12
  obtain ⟨a0, a1, a2, a3, a4, a5, a6, a7, a8, a9, a10, a11, a12⟩ := hb4.cells
  have HF : Hid (∀ g, Value.ownBlock (.slice ao2 l1.length cap2) = some g → w1.heap.size ≤ g ∧ g < w2.heap.size) := fun g hg => ⟨hf g hg, ho.lt g hg⟩
  clear hok HU hA1 hm1 hm2 hD3 hD4 hb4 ho hf HB1 hA hm0 hb1
  go_wp2_with (first | (refine wpList_store_row info18 rfl rfl _ _ rfl (w2.heap.size + 1) #[.int .i64 rs, .int .i64 rr, .int .i64 sq, .int .i64 i, .int .i64 st, .int .i64 k2, .int .i64 o2, .int .i64 lf2, .int .i64 i2, .int .i64 p2, .int .i64 ps2, .int .i64 g2, .bool s2, .int .i64 st2, .int .i64 rs2, .int .i64 rr2, .int .i64 sq2, (.slice ao2 l1.length cap2)] rfl rfl HB4.out rfl rfl rfl ?_; intro w4 hB5 hM5; have HZ5 : Hid (Bk _ _ _ _) := HZ4.out.mod hM5 (by omega)) | (refine wpList_load_row info18 Tryz.underlying45 rfl rfl _ rfl (w2.heap.size + 1) rfl hB5 rfl ?_; simp only [Act.put, List.setIfInBounds_toArray, List.set_cons_succ, List.set_cons_zero]) | (refine wpList_store_row info18 rfl rfl _ _ rfl (w.heap.size + 1) #[.int .i64 rs, .int .i64 rr, .int .i64 sq, .int .i64 i, .int .i64 st, .int .i64 k2, .int .i64 o2, .int .i64 lf2, .int .i64 i2, .int .i64 p2, .int .i64 ps2, .int .i64 g2, .bool s2, .int .i64 st2, .int .i64 rs2, .int .i64 rr2, .int .i64 sq2, (.slice ao2 l1.length cap2)] rfl rfl HZ5.out rfl rfl rfl ?_; intro wF hBF hMF))
  refine bodyPost_ret (res18 rfl rfl rfl hBF rfl) rfl ⟨_, _, _, _, _, _, _, _, _, _, _, _, _, _, _, _, _, _, rfl, (HA4.out.trans hM5 (V := fun _ => False) (fun _ _ h => h) (fun _ hi h => by omega)).trans hMF (V := fun _ => False) (fun _ _ h => h) (fun _ hi h => by omega), fun _ => ⟨⟨rfl, rfl, rfl, rfl, rfl⟩, rfl, (HO4.out.mod hM5 (fun g hg e => by have := HF.out g hg; omega)).mod hMF (fun g hg e => by have := HF.out g hg; omega), fun g hg => by have := HF.out g hg; omega⟩, fun h => absurd rfl h⟩
theorem Inner_any (k o lf i p ps g : Int) (s : Bool) (st rs rr sq : Int) (ao : Option Addr) (cap : Nat) (l : List Int) (w : World) (hs : Sl w (.slice ao l.length cap) l) :
    Calls Tryz.prog 44 #[.agg #[.int .i64 k, .int .i64 o, .int .i64 lf, .int .i64 i, .int .i64 p, .int .i64 ps, .int .i64 g, .bool s, .int .i64 st, .int .i64 rs, .int .i64 rr, .int .i64 sq, (.slice ao l.length cap)]] w fun e w' => ∃ dq dr ds dn dt k' o' lf' i' p' ps' g' s' st' rs' rr' sq' bv', e = .returned (.tuple #[.agg #[.int .i64 dq, .int .i64 dr, .int .i64 ds, .int .i64 dn, .int .i64 dt, .int .i64 k', .int .i64 o', .int .i64 lf', .int .i64 i', .int .i64 p', .int .i64 ps', .int .i64 g', .bool s', .int .i64 st', .int .i64 rs', .int .i64 rr', .int .i64 sq', bv'], .int .i64 (inE ⟨k, o, lf, i, p, ps, g, s, st, rs, rr, sq, l⟩)]) ∧ Mod (fun _ => False) w w' ∧
      (inE ⟨k, o, lf, i, p, ps, g, s, st, rs, rr, sq, l⟩ = 0 → (dq = rs ∧ dr = rr ∧ ds = sq ∧ dn = i ∧ dt = st) ∧ Ms.mk k' o' lf' i' p' ps' g' s' st' rs' rr' sq' (prM l).body = prM l ∧ Own w' bv' (prM l).body ∧ (∀ g, bv'.ownBlock = some g → w.heap.size ≤ g)) ∧
      (inE ⟨k, o, lf, i, p, ps, g, s, st, rs, rr, sq, l⟩ ≠ 0 → (dq = 0 ∧ dr = 0 ∧ ds = 0 ∧ dn = 0 ∧ dt = 0 ∧ k' = 0 ∧ o' = 0 ∧ lf' = 0 ∧ i' = 0 ∧ p' = 0 ∧ ps' = 0 ∧ g' = 0 ∧ s' = false ∧ st' = 0 ∧ rs' = 0 ∧ rr' = 0 ∧ sq' = 0 ∧ bv' = .slice none 0 0)) := by
  by_cases hk : k = 5
  · subst hk
    by_cases hc : chk ⟨5, o, lf, i, p, ps, g, s, st, rs, rr, sq, l⟩ = 0
    · exact Inner_ok o lf i p ps g s st rs rr sq ao cap l w hs hc
    · exact Inner_c o lf i p ps g s st rs rr sq ao cap l w hs hc
  · exact Inner_k k o lf i p ps g s st rs rr sq ao cap l w hs hk
end Go.Proofs.YthiijonmnebjgaaGreat
