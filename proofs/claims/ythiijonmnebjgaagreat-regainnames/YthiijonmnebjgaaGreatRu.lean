/- Contract of the document's Unpack, given its Check. Conditions: sizes that a slice of bytes has. -/
import Derived.Test.YthiijonmnebjgaaGreatRq
import Derived.Test.YthiijonmnebjgaaGreatWi
import Derived.Test.YthiijonmnebjgaaGreatRb
import Derived.Test.YthiijonmnebjgaaGreatCv
import Derived.Deep.Cut
namespace Go.Proofs.YthiijonmnebjgaaGreat
open Go.RowKit
theorem info13 : (Tryz.prog.info? 43).map (·.size) = some 13 := by kernel_rfl
theorem res13 {fn : Func} {pp u : Tmp} (h : fn.results = #[.cell pp 43, .tmp u]) {tmps : Array Value} {w : World} {b : Nat} {xs : Array Value} {v : Value} (hp : tmps.getD pp undef = .pointer (some ⟨b, 0, none⟩)) (hv : tmps.getD u undef = v) (hb : Bk w b 43 xs) (hs : xs.size = 13) :
    (results fn tmps).run Tryz.prog w = .ok (.tuple #[.agg xs, v]) w := by
  rw [results_cell_tmp h, hp, hv]
  have hl := run_loadVar_mid (P := Tryz.prog) w b 0 43 xs.toList _ hb.row Tryz.underlying43 rfl (by rw [info13]; simp [hs])
  simp only [asAddr, Sem.run_pure, Result.andThen]
  rw [hl]
/-- The numbers that are read, the rest zero. -/
def a12 (k : Nat) (L : List Int) : Array Value := (((rdv k L) ++ List.replicate (12 - k) 0).map (Value.int .i64)).toArray
theorem a12_zero (L : List Int) : a12 0 L = #[.int .i64 0, .int .i64 0, .int .i64 0, .int .i64 0, .int .i64 0, .int .i64 0, .int .i64 0, .int .i64 0, .int .i64 0, .int .i64 0, .int .i64 0, .int .i64 0] := rfl
theorem a12_set {k : Nat} {L : List Int} (hk : k < 12) (h : rde k L = 0) (hx : (num 0 0 (rdr k L)).2.2 = 0) : (a12 k L).setIfInBounds k (.int .i64 (num 0 0 (rdr k L)).1) = a12 (k + 1) L := by
  obtain ⟨_, h2, _⟩ := rd_ok h hx
  have hl := rdv_len k L h
  unfold a12
  rw [h2, show 12 - k = (12 - (k + 1)) + 1 by omega, List.replicate_succ]
  simp only [List.map_append, List.map_cons, List.setIfInBounds_toArray, List.append_assoc, List.cons_append, List.nil_append]
  rw [List.set_append_right _ _ (by simp [hl]), List.length_map, hl, Nat.sub_self]
  rfl
theorem a12_size (k : Nat) (L : List Int) (hk : k ≤ 12) (h : rde k L = 0) : (a12 k L).size = 12 := by
  have hl := rdv_len k L h
  simp [a12, hl]; omega
theorem a12_get {L : List Int} (h : rde 12 L = 0) (j : Nat) (hj : j < 12) : (a12 12 L)[j]? = some (.int .i64 ((rdv 12 L).getD j 0)) := by
  have hl := rdv_len 12 L h
  simp [a12, hl, hj]
set_option maxRecDepth 100000 in
set_option maxHeartbeats 4000000 in
theorem dUnpack_of (v : Value) (L : List Int) (w : World) (hs : Sl w v L) (hb : L.length ≤ 140737488355328)
    (HC : prE L = 0 → ∀ W ao cap, Sl W (.slice ao (prM L).body.length cap) (prM L).body → Calls Tryz.prog 54 #[.agg #[.int .i64 (prM L).kind, .int .i64 (prM L).origin, .int .i64 (prM L).life, .int .i64 (prM L).id, .int .i64 (prM L).part, .int .i64 (prM L).parts, .int .i64 (prM L).groups, .bool (prM L).safe, .int .i64 (prM L).st, .int .i64 (prM L).rs, .int .i64 (prM L).rr, .int .i64 (prM L).sq, .slice ao (prM L).body.length cap]] W fun e w' => e = .returned (.int .i64 (chk (prM L))) ∧ Mod (fun _ => False) W w') :
    Calls Tryz.prog 60 #[v] w (Unp L w) := by
  have hA := (Mod.refl (fun _ => False) w).alloc (.cells #[.int .i64 0, .int .i64 0, .int .i64 0, .int .i64 0, .int .i64 0, .int .i64 0, .int .i64 0, .bool false, .int .i64 0, .int .i64 0, .int .i64 0, .int .i64 0, .slice none 0 0] 43)
  have hB0 := Bk.new w #[.int .i64 0, .int .i64 0, .int .i64 0, .int .i64 0, .int .i64 0, .int .i64 0, .int .i64 0, .bool false, .int .i64 0, .int .i64 0, .int .i64 0, .int .i64 0, .slice none 0 0] 43
  have hrL := hs.rng
  have HN := rNew v L _ (hs.mod hA (fun _ _ h => h)) hb
  unfold Unp
  obtain ⟨E, hE0⟩ : ∃ E, unE L = E := ⟨_, rfl⟩
  rw [hE0]
  have HE : Hid (unE L = E) := hE0
  clear hE0
  go_enter Tryz.func60, Tryz.ntmps60
  go_wp2_with (fail)
  refine HN.mono ?_
  rintro e w1 ⟨p, rfl, v1, hr1, hm1, hp1, hv1⟩
  have hsz1 : w.heap.size + 1 ≤ w1.heap.size := by have := hm1.size; simp at this; omega
  have hpl := lt_of_block hr1.blk
  have hp2 : w.heap.size + 1 ≤ p := by simp at hp1; omega
  have hv2 : ∀ g, v1.ownBlock = some g → w.heap.size + 1 ≤ g ∧ (L ≠ [] → g < w1.heap.size) := fun g hg => ⟨by have := hv1 g hg; simp at this; omega, fun hl => hr1.sl.lt hl g hg⟩
  have hD2 := (Mod.refl (fun _ => False) w1).alloc (.cells (a12 0 L) 108)
  have hB2 := Bk.new w1 (a12 0 L) 108
  have hA2 : Mod (fun _ => False) w (w1.alloc (.cells (a12 0 L) 108)) := (hA.trans hm1 (V := fun _ => False) (fun _ _ h => h) (fun _ _ h => h)).trans hD2 (V := fun _ => False) (fun _ _ h => h) (fun _ _ h => h)
  have hZ2 : Bk (w1.alloc (.cells (a12 0 L) 108)) w.heap.size 43 #[.int .i64 0, .int .i64 0, .int .i64 0, .int .i64 0, .int .i64 0, .int .i64 0, .int .i64 0, .bool false, .int .i64 0, .int .i64 0, .int .i64 0, .int .i64 0, .slice none 0 0] := (hB0.mod hm1 (fun h => h)).mod hD2 (fun h => h)
  have hr2 : Rf (w1.alloc (.cells (a12 0 L) 108)) p v1 (rdr 0 L) := hr1.mod2 hD2 (fun h => h) (fun _ _ _ h => h)
  have hA2' := hA2
  rw [a12_zero] at hA2'
  clear hm1 hA hB0 HN hr1 hD2 hp1 hv1
  have e12 := a12_zero L
  have HR2 : Hid (Rf _ _ _ _) := hr2
  have HB2 : Hid (Bk _ _ _ _) := hB2
  have HZ2 : Hid (Bk _ _ _ _) := hZ2
  have HA2 : Hid (Mod _ _ _) := hA2
  rw [e12] at HR2 HB2 HZ2 HA2
  clear hr2 hB2 hZ2 hA2 hA2' e12
  go_wp2
  go_loopw [6] (fun i wr => ∃ (k : Nat) (v' : Value), i = .int .i64 k ∧ k ≤ 12 ∧ Hid (rde k L = 0) ∧ Hid (7 < k → (rdv k L).getD 7 0 ≤ 1) ∧ Hid (Rf wr p v' (rdr k L)) ∧ Hid (Bk wr w1.heap.size 108 (a12 k L)) ∧ Hid (Bk wr w.heap.size 43 #[.int .i64 0, .int .i64 0, .int .i64 0, .int .i64 0, .int .i64 0, .int .i64 0, .int .i64 0, .bool false, .int .i64 0, .int .i64 0, .int .i64 0, .int .i64 0, .slice none 0 0]) ∧ Hid (Mod (fun _ => False) w wr) ∧ Hid (∀ g, v'.ownBlock = some g → v1.ownBlock = some g) ∧ w1.heap.size < wr.heap.size) (fun i _ => 12 - (intOf i).toNat)
  case atStart => exact ⟨0, v1, rfl, by omega, rfl, by show _ → _; intro h; omega, HR2, by show Bk _ _ _ _; rw [a12_zero]; exact HB2.out, HZ2, HA2, fun _ h => h, by simp⟩
  case round =>
    obtain ⟨k, v', rfl, hk, hrde, h7, hr, hB, hZ, hm, hv, hwr⟩ := hrel
    clear HR2 HB2 HZ2 HA2
    by_cases hlt : k < 12
    · have HG := rGet p v' (rdr k L) wr hr.out
      have hnv := num_val (rdr k L) 0 0
      have hOK := fun h => rd_ok hrde.out h
      have hAS := fun h => a12_set hlt hrde.out h
      have hBAD := fun h => pr_bad hlt hrde.out h7.out h
      obtain ⟨x, z, er, hN⟩ : ∃ x z er, num 0 0 (rdr k L) = (x, z, er) := ⟨_, _, _, rfl⟩
      have h7S : k = 7 → er = 0 → 1 < x → prE L = 4 := fun e7 h0 h1 => by
        subst e7
        exact pr_seven hrde.out (by rw [hN]; exact h0) (by rw [hN]; exact h1)
      rw [hN] at HG hnv hOK hAS hBAD
      simp only at HG hnv hOK hAS hBAD
      have hfz := hB.out.frz k
      have hce : ∃ u, wr.cell? ⟨w1.heap.size, k, none⟩ = some u := ⟨_, hB.out.cellv (Array.getElem?_eq_getElem (by rw [a12_size k L hk hrde.out]; exact hlt))⟩
      have hki : (k : Int) < 12 := by omega
      go_wp2_with (fail)
      refine HG.mono ?_
      rintro e w2 ⟨rfl, v2, hr2, hm2, hf2⟩
      have hB2 := hB.out.mod hm2 (by intro e; omega)
      have hZ2 := hZ.out.mod hm2 (by intro e; omega)
      have hM2 : Mod (fun _ => False) w w2 := hm.out.trans hm2 (fun _ _ h => h) (fun _ hi e => by omega)
      have hs2 := hm2.size
      have HV2 : Hid (∀ g, v2.ownBlock = some g → v1.ownBlock = some g) := fun g hg => hv.out g (hf2 g hg)
      clear HG hm2 hf2 hv hB hZ hm hr hce hfz
      by_cases hx : er = 0
      · subst hx
        obtain ⟨o1, o2, o3⟩ := hOK rfl
        have hA3 := hAS rfl
        clear hOK hAS hBAD hnv
        have hfz := hB2.frz k
        obtain ⟨u, hce⟩ : ∃ u, w2.cell? ⟨w1.heap.size, k, none⟩ = some u := ⟨_, hB2.cellv (Array.getElem?_eq_getElem (by rw [a12_size k L hk hrde.out]; exact hlt))⟩
        by_cases hk7 : k = 7
        · subst hk7
          by_cases hx1 : 1 < x
          · have hE := h7S rfl rfl hx1
            obtain rfl : E = 4 := by rw [← HE.out, unE, if_pos (by rw [hE]; decide), hE]
            have HZ : Hid (Bk _ _ _ _) := hZ2
            have HM2 : Hid (Mod _ _ _) := hM2
            clear hZ2 hM2 h7S hce hB2 hr2 hA3 hfz o1 o2 o3
            go_wp2_with (refine wpList_store_row info13 rfl rfl _ _ rfl w.heap.size #[.int .i64 0, .int .i64 0, .int .i64 0, .int .i64 0, .int .i64 0, .int .i64 0, .int .i64 0, .bool false, .int .i64 0, .int .i64 0, .int .i64 0, .int .i64 0, .slice none 0 0] rfl rfl HZ.out rfl rfl rfl ?_; intro wF hBF hMF)
            exact bodyPost_ret (res13 rfl rfl rfl hBF rfl) rfl ⟨_, _, _, _, _, _, _, _, _, _, _, _, _, rfl, (HM2.out).trans hMF (V := fun _ => False) (fun _ _ h => h) (fun _ hi h => by omega), fun h => absurd h (by decide), fun _ => ⟨rfl, rfl, rfl, rfl, rfl, rfl, rfl, rfl, rfl, rfl, rfl, rfl, rfl⟩⟩
          · have HR3 : Hid (Rf _ _ _ _) := hr2.mod2 ((Mod.refl (fun b => b = w1.heap.size) w2).setCell ⟨w1.heap.size, 7, none⟩ (.int .i64 x) (.inl rfl)) (by omega) (fun hl g hg e => by
              have h1 := HV2.out g hg
              have h2 := hv2 g h1
              have h3 : L ≠ [] := by rintro rfl; exact hl (List.eq_nil_iff_forall_not_mem.2 fun c hc => by have := rdr_mem 7 [] c (List.mem_of_mem_drop hc); simp at this)
              have := h2.2 h3
              omega)
            have HB3 : Hid (Bk _ _ _ _) := hB2.set 7 (.int .i64 x)
            have HZ3 : Hid (Bk _ _ _ _) := hZ2.other ⟨w1.heap.size, 7, none⟩ (.int .i64 x) (by simp; omega)
            have HM3 : Hid (Mod _ _ _) := hM2.setCell ⟨w1.heap.size, 7, none⟩ (.int .i64 x) (.inr (by simp; omega))
            clear hr2 hB2 hZ2 hM2 h7S
            have hx2 : x ≤ 1 := by omega
            go_wp2
            go_roundw
            case rel => exact ⟨8, v2, by go_num, by omega, o1, by
                show _ → _
                intro _
                rw [o2]
                have hl := rdv_len 7 L hrde.out
                rw [List.getD_eq_getElem?_getD, List.getElem?_append_right (by omega)]
                simpa [hl] using hx2, by show Rf _ _ _ _; rw [o3]; exact HR3.out, by show Bk _ _ _ _; rw [← hA3]; exact HB3.out, HZ3, HM3, HV2, by simp only [World.setCell, Array.size_modify]; omega⟩
            case measure => simp [intOf]
        · have hk7b : ((k : Int) == 7) = false := by simp; omega
          have HR3 : Hid (Rf _ _ _ _) := hr2.mod2 ((Mod.refl (fun b => b = w1.heap.size) w2).setCell ⟨w1.heap.size, k, none⟩ (.int .i64 x) (.inl rfl)) (by omega) (fun hl g hg e => by
              have h1 := HV2.out g hg
              have h2 := hv2 g h1
              have h3 : L ≠ [] := by rintro rfl; exact hl (List.eq_nil_iff_forall_not_mem.2 fun c hc => by have := rdr_mem k [] c (List.mem_of_mem_drop hc); simp at this)
              have := h2.2 h3
              omega)
          have HB3 : Hid (Bk _ _ _ _) := hB2.set k (.int .i64 x)
          have HZ3 : Hid (Bk _ _ _ _) := hZ2.other ⟨w1.heap.size, k, none⟩ (.int .i64 x) (by simp; omega)
          have HM3 : Hid (Mod _ _ _) := hM2.setCell ⟨w1.heap.size, k, none⟩ (.int .i64 x) (.inr (by simp; omega))
          clear hr2 hB2 hZ2 hM2 h7S
          go_wp2
          go_roundw
          case rel => exact ⟨k + 1, v2, by go_num, by omega, o1, by
              show _ → _
              intro h
              have hl := rdv_len k L hrde.out
              rw [o2, getD_app (by omega)]
              exact h7.out (by omega), by show Rf _ _ _ _; rw [o3]; exact HR3.out, by show Bk _ _ _ _; rw [← hA3]; exact HB3.out, HZ3, HM3, HV2, by simp only [World.setCell, Array.size_modify]; omega⟩
          case measure => simp [intOf]; omega
      · have hE := hBAD hx
        have hxb : (er != 0) = true := by simp [hx]
        obtain rfl : E = er := by rw [← HE.out, unE, if_pos (by rw [hE]; exact hx), hE]
        have HZ : Hid (Bk _ _ _ _) := hZ2
        have HM2 : Hid (Mod _ _ _) := hM2
        clear hZ2 hM2 h7S hB2 hr2 hOK hAS hBAD hE hnv hN
        go_wp2_with (refine wpList_store_row info13 rfl rfl _ _ rfl w.heap.size #[.int .i64 0, .int .i64 0, .int .i64 0, .int .i64 0, .int .i64 0, .int .i64 0, .int .i64 0, .bool false, .int .i64 0, .int .i64 0, .int .i64 0, .int .i64 0, .slice none 0 0] rfl rfl HZ.out rfl rfl rfl ?_; intro wF hBF hMF)
        exact bodyPost_ret (res13 rfl rfl rfl hBF rfl) rfl ⟨_, _, _, _, _, _, _, _, _, _, _, _, _, rfl, (HM2.out).trans hMF (V := fun _ => False) (fun _ _ h => h) (fun _ hi h => by omega), fun h => absurd h hx, fun _ => ⟨rfl, rfl, rfl, rfl, rfl, rfl, rfl, rfl, rfl, rfl, rfl, rfl, rfl⟩⟩
    · obtain rfl : k = 12 := by omega
      have h7' := h7.out (by omega)
      have hPE := pr_end hrde.out h7'
      obtain ⟨t1, t2, t3, t4, t5⟩ := pr_twelve hrde.out h7'
      have hn8 := rdv_len 8 L t1
      have hn4 := rdv_len 4 (rdr 8 L) t2
      have hgA : ∀ j, j < 8 → (rdv 12 L).getD j 0 = (rdv 8 L).getD j 0 := fun j hj => by rw [← t4, getD_app (by omega)]
      have hgB : ∀ j, j < 4 → (rdv 12 L).getD (8 + j) 0 = (rdv 4 (rdr 8 L)).getD j 0 := fun j hj => by
        rw [← t4, List.getD_eq_getElem?_getD, List.getElem?_append_right (by omega), hn8, Nat.add_sub_cancel_left, ← List.getD_eq_getElem?_getD]
      have hMB : prM L = ⟨(rdv 12 L).getD 0 0, (rdv 12 L).getD 1 0, (rdv 12 L).getD 2 0, (rdv 12 L).getD 3 0, (rdv 12 L).getD 4 0, (rdv 12 L).getD 5 0, (rdv 12 L).getD 6 0, (rdv 12 L).getD 7 0 == 1, (rdv 12 L).getD 8 0, (rdv 12 L).getD 9 0, (rdv 12 L).getD 10 0, (rdv 12 L).getD 11 0, obody (rdr 12 L)⟩ := by
        have g8 := hgB 0 (by omega)
        have g9 := hgB 1 (by omega)
        have g10 := hgB 2 (by omega)
        have g11 := hgB 3 (by omega)
        rw [hgA 0 (by omega), hgA 1 (by omega), hgA 2 (by omega), hgA 3 (by omega), hgA 4 (by omega), hgA 5 (by omega), hgA 6 (by omega), hgA 7 (by omega), show (8 : Nat) = 8 + 0 from rfl, g8, show (9 : Nat) = 8 + 1 from rfl, g9, show (10 : Nat) = 8 + 2 from rfl, g10, show (11 : Nat) = 8 + 3 from rfl, g11, ← t3]
        simp [prM]
        rw [Bool.eq_iff_iff]
        simp
      have hPR : prR L = orest (rdr 12 L) := by rw [prR, t3]
      have hc0 := hB.out.cellv (a12_get hrde.out 0 (by omega))
      have hc1 := hB.out.cellv (a12_get hrde.out 1 (by omega))
      have hc2 := hB.out.cellv (a12_get hrde.out 2 (by omega))
      have hc3 := hB.out.cellv (a12_get hrde.out 3 (by omega))
      have hc4 := hB.out.cellv (a12_get hrde.out 4 (by omega))
      have hc5 := hB.out.cellv (a12_get hrde.out 5 (by omega))
      have hc6 := hB.out.cellv (a12_get hrde.out 6 (by omega))
      have hc7 := hB.out.cellv (a12_get hrde.out 7 (by omega))
      have hc8 := hB.out.cellv (a12_get hrde.out 8 (by omega))
      have hc9 := hB.out.cellv (a12_get hrde.out 9 (by omega))
      have hc10 := hB.out.cellv (a12_get hrde.out 10 (by omega))
      have hc11 := hB.out.cellv (a12_get hrde.out 11 (by omega))
      clear hgA hgB t4 t5 hn8 hn4 h7'
      have hLl : (rdr 12 L).length ≤ 140737488355328 := by have := rdr_len 12 L hrde.out; omega
      have hrR : ∀ c ∈ rdr 12 L, 0 ≤ c ∧ c ≤ 255 := fun c hc => hrL c (rdr_mem 12 L c hc)
      by_cases hO : octE 160 (rdr 12 L) = 0
      · have HO := rOctets_ok p v' (rdr 12 L) 160 wr hr.out hLl hO
        have HE2 : E = if prR L = [] ∧ chk (prM L) = 0 then 0 else 4 := by
          rw [← HE.out, unE, if_neg (by rw [hPE, hO]; simp)]
          by_cases h : prR L = [] ∧ chk (prM L) = 0
          · rw [if_neg (fun h' => h' h), if_pos h]
          · rw [if_pos h, if_neg h]
        have HK := HC (by rw [hPE]; exact hO)
        have hbr : ∀ c ∈ obody (rdr 12 L), 0 ≤ c ∧ c ≤ 255 := fun c hc => hrR c (obody_mem c hc)
        change Calls _ _ _ _ (fun e w' => ∃ v1 v2, e = .returned (.tuple #[v1, .int .i64 0]) ∧ Own w' v1 (obody (rdr 12 L)) ∧ Rf w' p v2 (orest (rdr 12 L)) ∧ Mod (fun i => i = p) wr w' ∧ (∀ g, v1.ownBlock = some g → wr.heap.size ≤ g) ∧ (∀ g, v2.ownBlock = some g → v'.ownBlock = some g)) at HO
        rw [hMB] at HK HE2
        rw [hPR] at HE2
        dsimp only at HK
        have HMB : Hid (prM L = _) := hMB
        have hBA := hB.out
        clear hMB hPR hPE t1 t2 t3 HC hB HE h7 hLl hrR hO
        have hG := fun j hj => a12_get hrde.out j hj
        obtain ⟨x0, hx0⟩ : ∃ x, (rdv 12 L).getD 0 0 = x := ⟨_, rfl⟩
        obtain ⟨x1, hx1⟩ : ∃ x, (rdv 12 L).getD 1 0 = x := ⟨_, rfl⟩
        obtain ⟨x2, hx2⟩ : ∃ x, (rdv 12 L).getD 2 0 = x := ⟨_, rfl⟩
        obtain ⟨x3, hx3⟩ : ∃ x, (rdv 12 L).getD 3 0 = x := ⟨_, rfl⟩
        obtain ⟨x4, hx4⟩ : ∃ x, (rdv 12 L).getD 4 0 = x := ⟨_, rfl⟩
        obtain ⟨x5, hx5⟩ : ∃ x, (rdv 12 L).getD 5 0 = x := ⟨_, rfl⟩
        obtain ⟨x6, hx6⟩ : ∃ x, (rdv 12 L).getD 6 0 = x := ⟨_, rfl⟩
        obtain ⟨x7, hx7⟩ : ∃ x, (rdv 12 L).getD 7 0 = x := ⟨_, rfl⟩
        obtain ⟨x8, hx8⟩ : ∃ x, (rdv 12 L).getD 8 0 = x := ⟨_, rfl⟩
        obtain ⟨x9, hx9⟩ : ∃ x, (rdv 12 L).getD 9 0 = x := ⟨_, rfl⟩
        obtain ⟨x10, hx10⟩ : ∃ x, (rdv 12 L).getD 10 0 = x := ⟨_, rfl⟩
        obtain ⟨x11, hx11⟩ : ∃ x, (rdv 12 L).getD 11 0 = x := ⟨_, rfl⟩
        have g0 := hG 0 (by omega)
        have g1 := hG 1 (by omega)
        have g2 := hG 2 (by omega)
        have g3 := hG 3 (by omega)
        have g4 := hG 4 (by omega)
        have g5 := hG 5 (by omega)
        have g6 := hG 6 (by omega)
        have g7 := hG 7 (by omega)
        have g8 := hG 8 (by omega)
        have g9 := hG 9 (by omega)
        have g10 := hG 10 (by omega)
        have g11 := hG 11 (by omega)
        rw [hx0, hx1, hx2, hx3, hx4, hx5, hx6, hx7, hx8, hx9, hx10, hx11] at HK HE2 HMB
        rw [hx0] at g0
        clear hx0
        rw [hx1] at g1
        clear hx1
        rw [hx2] at g2
        clear hx2
        rw [hx3] at g3
        clear hx3
        rw [hx4] at g4
        clear hx4
        rw [hx5] at g5
        clear hx5
        rw [hx6] at g6
        clear hx6
        rw [hx7] at g7
        clear hx7
        rw [hx8] at g8
        clear hx8
        rw [hx9] at g9
        clear hx9
        rw [hx10] at g10
        clear hx10
        rw [hx11] at g11
        clear hx11
        obtain ⟨xs, hxs⟩ : ∃ xs, a12 12 L = xs := ⟨_, rfl⟩
        rw [hxs] at hBA g0 g1 g2 g3 g4 g5 g6 g7 g8 g9 g10 g11
        obtain ⟨bd, hbd⟩ : ∃ bd, obody (rdr 12 L) = bd := ⟨_, rfl⟩
        obtain ⟨og, hog⟩ : ∃ og, orest (rdr 12 L) = og := ⟨_, rfl⟩
        rw [hbd] at HO HK HE2 HMB hbr
        rw [hog] at HO HE2
        clear hc0 hc1 hc2 hc3 hc4 hc5 hc6 hc7 hc8 hc9 hc10 hc11 hG hxs hbd hog hrde
        obtain ⟨c, hc⟩ : ∃ c, chk ⟨x0, x1, x2, x3, x4, x5, x6, x7 == 1, x8, x9, x10, x11, bd⟩ = c := ⟨_, rfl⟩
        rw [hc] at HK HE2
        clear hc
        go_wp2_with (fail)
        refine HO.mono ?_
        rintro e w3 ⟨b1, v2, rfl, ho3, hr3, hm3, hf3, hg3⟩
        obtain ⟨ao3, cap3, rfl⟩ := ho3.shape
        have hsz3 := hm3.size
        have hB3 := hBA.mod hm3 (by intro e; omega)
        have hZ3 := hZ.out.mod hm3 (by intro e; omega)
        have hM3 : Mod (fun _ => False) w w3 := hm.out.trans hm3 (fun _ _ h => h) (fun _ hi e => by omega)
        have hc0 := hB3.cellv g0
        have hc1 := hB3.cellv g1
        have hc2 := hB3.cellv g2
        have hc3 := hB3.cellv g3
        have hc4 := hB3.cellv g4
        have hc5 := hB3.cellv g5
        have hc6 := hB3.cellv g6
        have hc7 := hB3.cellv g7
        clear hm3 hm hZ hBA HO
        go_upto_region 16 with (refine wpList_store_row info13 rfl rfl _ _ rfl w3.heap.size #[.int .i64 x0, .int .i64 x1, .int .i64 x2, .int .i64 x3, .int .i64 x4, .int .i64 x5, .int .i64 x6, .bool (x7 == 1), .int .i64 0, .int .i64 0, .int .i64 0, .int .i64 0, .slice ao3 bd.length cap3] rfl rfl (Bk.new w3 #[.int .i64 0, .int .i64 0, .int .i64 0, .int .i64 0, .int .i64 0, .int .i64 0, .int .i64 0, .bool false, .int .i64 0, .int .i64 0, .int .i64 0, .int .i64 0, .slice none 0 0] 43) rfl rfl rfl ?_; intro w4 hB4 hM4)
        clear hc0 hc1 hc2 hc3 hc4 hc5 hc6 hc7
        have hD4 : Mod (fun _ => False) w3 w4 := ((Mod.refl (fun _ => False) w3).alloc (.cells #[.int .i64 0, .int .i64 0, .int .i64 0, .int .i64 0, .int .i64 0, .int .i64 0, .int .i64 0, .bool false, .int .i64 0, .int .i64 0, .int .i64 0, .int .i64 0, .slice none 0 0] 43)).trans hM4 (fun _ _ h => h) (fun _ hi h => by omega)
        have hsz4 : w3.heap.size < w4.heap.size := hB4.lt
        have hB5 := hB3.mod hD4 (fun h => h)
        have hc8 := hB5.cellv g8
        have hc9 := hB5.cellv g9
        have hc10 := hB5.cellv g10
        have hc11 := hB5.cellv g11
        have hd8 := hB4.cellv (j := 8) rfl
        have hd9 := hB4.cellv (j := 9) rfl
        have hd10 := hB4.cellv (j := 10) rfl
        have hd11 := hB4.cellv (j := 11) rfl
        have hfz := hB4.frz
        have hB6 := (((hB4.set 8 (.int .i64 x8)).set 9 (.int .i64 x9)).set 10 (.int .i64 x10)).set 11 (.int .i64 x11)
        simp only [List.setIfInBounds_toArray, List.set_cons_succ, List.set_cons_zero] at hB6
        have hM6 : Mod (fun i => i = w3.heap.size) w4 ((((w4.setCell ⟨w3.heap.size, 8, none⟩ (.int .i64 x8)).setCell ⟨w3.heap.size, 9, none⟩ (.int .i64 x9)).setCell ⟨w3.heap.size, 10, none⟩ (.int .i64 x10)).setCell ⟨w3.heap.size, 11, none⟩ (.int .i64 x11)) := ((((Mod.refl (fun i => i = w3.heap.size) w4).setCell _ _ (.inl rfl)).setCell _ _ (.inl rfl)).setCell _ _ (.inl rfl)).setCell _ _ (.inl rfl)
        have hD6 : Mod (fun _ => False) w3 _ := hD4.trans hM6 (V := fun _ => False) (fun _ _ h => h) (fun _ hi h => by omega)
        go_upto_region 17 with fail
        clear hc8 hc9 hc10 hc11 hd8 hd9 hd10 hd11 hfz hB4 hM4 hB5 hB3 g0 g1 g2 g3 g4 g5 g6 g7 g8 g9 g10 g11
        generalize ((((w4.setCell ⟨w3.heap.size, 8, none⟩ (.int .i64 x8)).setCell ⟨w3.heap.size, 9, none⟩ (.int .i64 x9)).setCell ⟨w3.heap.size, 10, none⟩ (.int .i64 x10)).setCell ⟨w3.heap.size, 11, none⟩ (.int .i64 x11)) = w6 at hB6 hM6 hD6 ⊢
        have hr6 := hr3.mod2 hD6 (fun h => h) (fun _ _ _ h => h)
        have ho6 := ho3.mod hD6 (fun _ _ h => h)
        have hZ6 := hZ3.mod hD6 (fun h => h)
        have hMW := hM3.trans hD6 (V := fun _ => False) (fun _ _ h => h) (fun _ _ h => h)
        have hol := ho3.lt
        clear hM6 hD6 hD4 hr3 ho3 hZ3 hM3
        have HL := rLeft p v2 og w6 hr6
        go_wp2_with (fail)
        refine HL.mono ?_
        rintro e w7 ⟨rfl, rfl⟩
        have HF3 : Hid (∀ g, (Value.slice ao3 bd.length cap3).ownBlock = some g → w.heap.size + 1 ≤ g ∧ g < w3.heap.size) := fun g hg => ⟨by have := hf3 g hg; omega, hol g hg⟩
        clear HL hr6 hf3 hg3 hol
        by_cases hogl : og = []
        · subst hogl
          have HKc := HK w7 ao3 cap3 (ho6.sl hbr)
          have e0 := hB6.cellv (j := 0) rfl
          have e1 := hB6.cellv (j := 1) rfl
          have e2 := hB6.cellv (j := 2) rfl
          have e3 := hB6.cellv (j := 3) rfl
          have e4 := hB6.cellv (j := 4) rfl
          have e5 := hB6.cellv (j := 5) rfl
          have e6 := hB6.cellv (j := 6) rfl
          have e7 := hB6.cellv (j := 7) rfl
          have e8 := hB6.cellv (j := 8) rfl
          have e9 := hB6.cellv (j := 9) rfl
          have e10 := hB6.cellv (j := 10) rfl
          have e11 := hB6.cellv (j := 11) rfl
          have e12 := hB6.cellv (j := 12) rfl
          have HB6 : Hid (Bk _ _ _ _) := hB6
          clear hB6
          go_wp2_with (fail)
          refine HKc.mono ?_
          rintro e w8 ⟨rfl, hm8⟩
          have HB8 : Hid (Bk _ _ _ _) := HB6.out.mod hm8 (fun h => h)
          have HZ : Hid (Bk _ _ _ _) := hZ6.mod hm8 (fun h => h)
          have HM8 : Hid (Mod _ _ _) := hMW.trans hm8 (V := fun _ => False) (fun _ _ h => h) (fun _ _ h => h)
          have HO8 : Hid (Own _ _ _) := ho6.mod hm8 (fun _ _ h => h)
          clear e0 e1 e2 e3 e4 e5 e6 e7 e8 e9 e10 e11 e12 HB6 HKc HK hMW hZ6 ho6 hm8
          by_cases hc0 : c = 0
          · subst hc0
            have HE0 : Hid (E = 0) := by show _ = _; simpa using HE2
            clear HE2
            go_wp2_with (first | (refine wpList_load_row info13 Tryz.underlying43 rfl rfl _ rfl w3.heap.size rfl HB8.out rfl ?_; simp only [Act.put, List.setIfInBounds_toArray, List.set_cons_succ, List.set_cons_zero]) | (refine wpList_store_row info13 rfl rfl _ _ rfl w.heap.size #[.int .i64 x0, .int .i64 x1, .int .i64 x2, .int .i64 x3, .int .i64 x4, .int .i64 x5, .int .i64 x6, .bool (x7 == 1), .int .i64 x8, .int .i64 x9, .int .i64 x10, .int .i64 x11, .slice ao3 bd.length cap3] rfl rfl HZ.out rfl rfl rfl ?_; intro wF hBF hMF))
            have hE0 := HE0.out
            subst hE0
            exact bodyPost_ret (res13 rfl rfl rfl hBF rfl) rfl ⟨_, _, _, _, _, _, _, _, _, _, _, _, _, rfl, HM8.out.trans hMF (V := fun _ => False) (fun _ _ h => h) (fun _ hi h => by omega), fun _ => ⟨by rw [HMB.out], by rw [HMB.out]; exact HO8.out.mod hMF (fun g hg e => by have := HF3.out g hg; omega), fun g hg => by have := HF3.out g hg; omega⟩, fun h => absurd rfl h⟩
          · have hcb : (c != 0) = true := by simp [hc0]
            obtain rfl : E = 4 := by rw [HE2, if_neg (fun h => hc0 h.2)]
            clear HE2
            go_wp2_with (refine wpList_store_row info13 rfl rfl _ _ rfl w.heap.size #[.int .i64 0, .int .i64 0, .int .i64 0, .int .i64 0, .int .i64 0, .int .i64 0, .int .i64 0, .bool false, .int .i64 0, .int .i64 0, .int .i64 0, .int .i64 0, .slice none 0 0] rfl rfl HZ.out rfl rfl rfl ?_; intro wF hBF hMF)
            exact bodyPost_ret (res13 rfl rfl rfl hBF rfl) rfl ⟨_, _, _, _, _, _, _, _, _, _, _, _, _, rfl, (HM8.out).trans hMF (V := fun _ => False) (fun _ _ h => h) (fun _ hi h => by omega), fun h => absurd h (by decide), fun _ => ⟨rfl, rfl, rfl, rfl, rfl, rfl, rfl, rfl, rfl, rfl, rfl, rfl, rfl⟩⟩
        · have hpos : (0 : Int) < og.length := by have : 0 < og.length := List.length_pos_iff.2 hogl; omega
          obtain rfl : E = 4 := by rw [HE2, if_neg (fun h => hogl h.1)]
          have HZ : Hid (Bk _ _ _ _) := hZ6
          have HM2 : Hid (Mod _ _ _) := hMW
          clear hZ6 hMW HE2 HK hB6 ho6
          go_wp2_with (refine wpList_store_row info13 rfl rfl _ _ rfl w.heap.size #[.int .i64 0, .int .i64 0, .int .i64 0, .int .i64 0, .int .i64 0, .int .i64 0, .int .i64 0, .bool false, .int .i64 0, .int .i64 0, .int .i64 0, .int .i64 0, .slice none 0 0] rfl rfl HZ.out rfl rfl rfl ?_; intro wF hBF hMF)
          exact bodyPost_ret (res13 rfl rfl rfl hBF rfl) rfl ⟨_, _, _, _, _, _, _, _, _, _, _, _, _, rfl, (HM2.out).trans hMF (V := fun _ => False) (fun _ _ h => h) (fun _ hi h => by omega), fun h => absurd h (by decide), fun _ => ⟨rfl, rfl, rfl, rfl, rfl, rfl, rfl, rfl, rfl, rfl, rfl, rfl, rfl⟩⟩
      · have HO := rOctets_bad p v' (rdr 12 L) 160 wr hr.out hO
        have hob : (octE 160 (rdr 12 L) != 0) = true := by simp [hO]
        obtain ⟨er, her⟩ : ∃ er, octE 160 (rdr 12 L) = er := ⟨_, rfl⟩
        rw [her] at HO hob hO hPE
        obtain rfl : E = er := by rw [← HE.out, unE, if_pos (by rw [hPE]; exact hO), hPE]
        clear her
        have HZ : Hid (Bk _ _ _ _) := hZ
        clear hc0 hc1 hc2 hc3 hc4 hc5 hc6 hc7 hc8 hc9 hc10 hc11 hZ hMB hPR hPE HE t1 t2 t3 HC
        go_wp2_with (fail)
        refine HO.mono ?_
        rintro e w3 ⟨rfl, rfl⟩
        go_wp2_with (refine wpList_store_row info13 rfl rfl _ _ rfl w.heap.size #[.int .i64 0, .int .i64 0, .int .i64 0, .int .i64 0, .int .i64 0, .int .i64 0, .int .i64 0, .bool false, .int .i64 0, .int .i64 0, .int .i64 0, .int .i64 0, .slice none 0 0] rfl rfl HZ.out rfl rfl rfl ?_; intro wF hBF hMF)
        exact bodyPost_ret (res13 rfl rfl rfl hBF rfl) rfl ⟨_, _, _, _, _, _, _, _, _, _, _, _, _, rfl, (hm.out).trans hMF (V := fun _ => False) (fun _ _ h => h) (fun _ hi h => by omega), fun h => absurd h hO, fun _ => ⟨rfl, rfl, rfl, rfl, rfl, rfl, rfl, rfl, rfl, rfl, rfl, rfl, rfl⟩⟩
end Go.Proofs.YthiijonmnebjgaaGreat
