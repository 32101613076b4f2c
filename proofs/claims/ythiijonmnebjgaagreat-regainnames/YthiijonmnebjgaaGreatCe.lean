/- Contract of parcel's read: the message that comes next, or what is wrong with it. No conditions beyond sizes that a slice of bytes has. -/
import Derived.Test.YthiijonmnebjgaaGreatCd
namespace Go.Proofs.YthiijonmnebjgaaGreat
open Go.RowKit
theorem get8_start (r : Nat) (v : Value) (L : List Int) (w : World) (h : Rd w r v L) (hv : ∀ g, v.ownBlock = some g → g < w.heap.size) :
    Calls Tryz.prog 97 #[.pointer (some ⟨r, 0, none⟩), .slice (some ⟨w.heap.size + 1 + 1, 0, none⟩) 8 8] (((w.alloc (.cells #[.int .i64 0, .int .i64 0, .int .i64 0, .int .i64 0, .int .i64 0, .int .i64 0, .int .i64 0, .bool false, .int .i64 0, .int .i64 0, .int .i64 0, .int .i64 0, (.slice none 0 0)] 43)).alloc (.cells #[.int .i64 0] 3)).alloc (.cells #[Value.pointer (some ⟨w.heap.size, 0, none⟩), Value.pointer (some ⟨w.heap.size, 1, none⟩), Value.pointer (some ⟨w.heap.size, 2, none⟩), Value.pointer (some ⟨w.heap.size, 3, none⟩), Value.pointer (some ⟨w.heap.size, 4, none⟩), Value.pointer (some ⟨w.heap.size, 5, none⟩), Value.pointer (some ⟨w.heap.size, 6, none⟩), Value.pointer (some ⟨w.heap.size + 1, 0, none⟩)] 127)) fun e w1 => e = .returned (.int .i64 (rde 8 L)) ∧
      ∃ v', Rd w1 r v' (rdr 8 L) ∧ Mod (fun k => k = r) w w1 ∧ (∀ g, v'.ownBlock = some g → g < w.heap.size) ∧ w.heap.size + 1 + 1 < w1.heap.size ∧ MX w1 w.heap.size false (.slice none 0 0) ∧
        (rde 8 L = 0 → MB w1 w.heap.size ((rdv 8 L).getD 0 0) ((rdv 8 L).getD 1 0) ((rdv 8 L).getD 2 0) ((rdv 8 L).getD 3 0) ((rdv 8 L).getD 4 0) ((rdv 8 L).getD 5 0) ((rdv 8 L).getD 6 0) false 0 0 0 0 (.slice none 0 0) ∧ IB w1 (w.heap.size + 1) ((rdv 8 L).getD 7 0)) := by
  have hlt := lt_of_block h.blk
  have hM : Mod (fun _ => False) w (((w.alloc (.cells #[.int .i64 0, .int .i64 0, .int .i64 0, .int .i64 0, .int .i64 0, .int .i64 0, .int .i64 0, .bool false, .int .i64 0, .int .i64 0, .int .i64 0, .int .i64 0, (.slice none 0 0)] 43)).alloc (.cells #[.int .i64 0] 3)).alloc (.cells #[Value.pointer (some ⟨w.heap.size, 0, none⟩), Value.pointer (some ⟨w.heap.size, 1, none⟩), Value.pointer (some ⟨w.heap.size, 2, none⟩), Value.pointer (some ⟨w.heap.size, 3, none⟩), Value.pointer (some ⟨w.heap.size, 4, none⟩), Value.pointer (some ⟨w.heap.size, 5, none⟩), Value.pointer (some ⟨w.heap.size, 6, none⟩), Value.pointer (some ⟨w.heap.size + 1, 0, none⟩)] 127)) := (((Mod.refl _ w).alloc _).alloc _).alloc _
  have hR := h.mod hM (fun h => h) (fun _ _ h => h)
  have hm : MB (((w.alloc (.cells #[.int .i64 0, .int .i64 0, .int .i64 0, .int .i64 0, .int .i64 0, .int .i64 0, .int .i64 0, .bool false, .int .i64 0, .int .i64 0, .int .i64 0, .int .i64 0, (.slice none 0 0)] 43)).alloc (.cells #[.int .i64 0] 3)).alloc (.cells #[Value.pointer (some ⟨w.heap.size, 0, none⟩), Value.pointer (some ⟨w.heap.size, 1, none⟩), Value.pointer (some ⟨w.heap.size, 2, none⟩), Value.pointer (some ⟨w.heap.size, 3, none⟩), Value.pointer (some ⟨w.heap.size, 4, none⟩), Value.pointer (some ⟨w.heap.size, 5, none⟩), Value.pointer (some ⟨w.heap.size, 6, none⟩), Value.pointer (some ⟨w.heap.size + 1, 0, none⟩)] 127)) w.heap.size 0 0 0 0 0 0 0 false 0 0 0 0 (.slice none 0 0) := (((MB.new w 0 0 0 0 0 0 0 false 0 0 0 0 (.slice none 0 0))).mod ((Mod.refl (fun _ => False) _).alloc _) (fun h => h)).mod ((Mod.refl (fun _ => False) _).alloc _) (fun h => h)
  have hc : IB (((w.alloc (.cells #[.int .i64 0, .int .i64 0, .int .i64 0, .int .i64 0, .int .i64 0, .int .i64 0, .int .i64 0, .bool false, .int .i64 0, .int .i64 0, .int .i64 0, .int .i64 0, (.slice none 0 0)] 43)).alloc (.cells #[.int .i64 0] 3)).alloc (.cells #[Value.pointer (some ⟨w.heap.size, 0, none⟩), Value.pointer (some ⟨w.heap.size, 1, none⟩), Value.pointer (some ⟨w.heap.size, 2, none⟩), Value.pointer (some ⟨w.heap.size, 3, none⟩), Value.pointer (some ⟨w.heap.size, 4, none⟩), Value.pointer (some ⟨w.heap.size, 5, none⟩), Value.pointer (some ⟨w.heap.size, 6, none⟩), Value.pointer (some ⟨w.heap.size + 1, 0, none⟩)] 127)) (w.heap.size + 1) 0 := by
    have e : (w.alloc (.cells #[.int .i64 0, .int .i64 0, .int .i64 0, .int .i64 0, .int .i64 0, .int .i64 0, .int .i64 0, .bool false, .int .i64 0, .int .i64 0, .int .i64 0, .int .i64 0, (.slice none 0 0)] 43)).heap.size = w.heap.size + 1 := by simp
    have h1 : IB ((w.alloc (.cells #[.int .i64 0, .int .i64 0, .int .i64 0, .int .i64 0, .int .i64 0, .int .i64 0, .int .i64 0, .bool false, .int .i64 0, .int .i64 0, .int .i64 0, .int .i64 0, (.slice none 0 0)] 43)).alloc (.cells #[.int .i64 0] 3)) (w.alloc (.cells #[.int .i64 0, .int .i64 0, .int .i64 0, .int .i64 0, .int .i64 0, .int .i64 0, .int .i64 0, .bool false, .int .i64 0, .int .i64 0, .int .i64 0, .int .i64 0, (.slice none 0 0)] 43)).heap.size 0 := heap_alloc_new _ _
    rw [e] at h1
    exact h1.mod ((Mod.refl (fun _ => False) _).alloc _) (fun h => h)
  have hp : PB (((w.alloc (.cells #[.int .i64 0, .int .i64 0, .int .i64 0, .int .i64 0, .int .i64 0, .int .i64 0, .int .i64 0, .bool false, .int .i64 0, .int .i64 0, .int .i64 0, .int .i64 0, (.slice none 0 0)] 43)).alloc (.cells #[.int .i64 0] 3)).alloc (.cells #[Value.pointer (some ⟨w.heap.size, 0, none⟩), Value.pointer (some ⟨w.heap.size, 1, none⟩), Value.pointer (some ⟨w.heap.size, 2, none⟩), Value.pointer (some ⟨w.heap.size, 3, none⟩), Value.pointer (some ⟨w.heap.size, 4, none⟩), Value.pointer (some ⟨w.heap.size, 5, none⟩), Value.pointer (some ⟨w.heap.size, 6, none⟩), Value.pointer (some ⟨w.heap.size + 1, 0, none⟩)] 127)) (w.heap.size + 1 + 1) [(w.heap.size, 0), (w.heap.size, 1), (w.heap.size, 2), (w.heap.size, 3), (w.heap.size, 4), (w.heap.size, 5), (w.heap.size, 6), (w.heap.size + 1, 0)] := by
    refine PB.of (t := 127) ?_
    have e : ((w.alloc (.cells #[.int .i64 0, .int .i64 0, .int .i64 0, .int .i64 0, .int .i64 0, .int .i64 0, .int .i64 0, .bool false, .int .i64 0, .int .i64 0, .int .i64 0, .int .i64 0, (.slice none 0 0)] 43)).alloc (.cells #[.int .i64 0] 3)).heap.size = w.heap.size + 1 + 1 := by simp
    have := heap_alloc_new ((w.alloc (.cells #[.int .i64 0, .int .i64 0, .int .i64 0, .int .i64 0, .int .i64 0, .int .i64 0, .int .i64 0, .bool false, .int .i64 0, .int .i64 0, .int .i64 0, .int .i64 0, (.slice none 0 0)] 43)).alloc (.cells #[.int .i64 0] 3)) (.cells #[Value.pointer (some ⟨w.heap.size, 0, none⟩), Value.pointer (some ⟨w.heap.size, 1, none⟩), Value.pointer (some ⟨w.heap.size, 2, none⟩), Value.pointer (some ⟨w.heap.size, 3, none⟩), Value.pointer (some ⟨w.heap.size, 4, none⟩), Value.pointer (some ⟨w.heap.size, 5, none⟩), Value.pointer (some ⟨w.heap.size, 6, none⟩), Value.pointer (some ⟨w.heap.size + 1, 0, none⟩)] 127)
    rw [e] at this
    exact this
  have hs : (((w.alloc (.cells #[.int .i64 0, .int .i64 0, .int .i64 0, .int .i64 0, .int .i64 0, .int .i64 0, .int .i64 0, .bool false, .int .i64 0, .int .i64 0, .int .i64 0, .int .i64 0, (.slice none 0 0)] 43)).alloc (.cells #[.int .i64 0] 3)).alloc (.cells #[Value.pointer (some ⟨w.heap.size, 0, none⟩), Value.pointer (some ⟨w.heap.size, 1, none⟩), Value.pointer (some ⟨w.heap.size, 2, none⟩), Value.pointer (some ⟨w.heap.size, 3, none⟩), Value.pointer (some ⟨w.heap.size, 4, none⟩), Value.pointer (some ⟨w.heap.size, 5, none⟩), Value.pointer (some ⟨w.heap.size, 6, none⟩), Value.pointer (some ⟨w.heap.size + 1, 0, none⟩)] 127)).heap.size = w.heap.size + 1 + 1 + 1 := by simp
  generalize (((w.alloc (.cells #[.int .i64 0, .int .i64 0, .int .i64 0, .int .i64 0, .int .i64 0, .int .i64 0, .int .i64 0, .bool false, .int .i64 0, .int .i64 0, .int .i64 0, .int .i64 0, (.slice none 0 0)] 43)).alloc (.cells #[.int .i64 0] 3)).alloc (.cells #[Value.pointer (some ⟨w.heap.size, 0, none⟩), Value.pointer (some ⟨w.heap.size, 1, none⟩), Value.pointer (some ⟨w.heap.size, 2, none⟩), Value.pointer (some ⟨w.heap.size, 3, none⟩), Value.pointer (some ⟨w.heap.size, 4, none⟩), Value.pointer (some ⟨w.heap.size, 5, none⟩), Value.pointer (some ⟨w.heap.size, 6, none⟩), Value.pointer (some ⟨w.heap.size + 1, 0, none⟩)] 127)) = W at hM hR hm hc hp hs
  refine (get8 r v L w.heap.size (w.heap.size + 1) (w.heap.size + 1 + 1) 8 0 0 0 0 0 0 0 false 0 0 0 0 (.slice none 0 0) 0 W hR hm hc hp (by omega) (by omega) (by omega) (by omega) (by omega) (by omega) ?_ ?_).mono ?_
  · intro e; have := hv _ e; omega
  · intro e; have := hv _ e; omega
  · rintro e w1 ⟨rfl, v', hr1, hm1, ho, hx, hok⟩
    refine ⟨rfl, v', hr1, ?_, fun g hg => hv g (ho g hg), ?_, hx, hok⟩
    · refine hM.trans hm1 (fun _ _ h => h.elim) ?_
      rintro i hi (h | h | h) <;> omega
    · have := hm1.size; omega

set_option maxRecDepth 100000 in
set_option maxHeartbeats 2000000 in
theorem read_any (r : Nat) (v : Value) (L : List Int) (w : World) (h : Rd w r v L) (hv : ∀ g, v.ownBlock = some g → g < w.heap.size) (hL : L.length ≤ 140737488355328) :
    Calls Tryz.prog 76 #[.pointer (some ⟨r, 0, none⟩)] w fun e w' => ∃ k o lf i p ps g s st rs rr sq bv, e = .returned (.tuple #[.agg #[.int .i64 k, .int .i64 o, .int .i64 lf, .int .i64 i, .int .i64 p, .int .i64 ps, .int .i64 g, .bool s, .int .i64 st, .int .i64 rs, .int .i64 rr, .int .i64 sq, bv], .int .i64 (prE L)]) ∧ Mod (fun x => x = r) w w' ∧
      (prE L = 0 → Ms.mk k o lf i p ps g s st rs rr sq (prM L).body = prM L ∧ Own w' bv (prM L).body ∧ (∀ g, bv.ownBlock = some g → w.heap.size ≤ g) ∧ ∃ v', Rd w' r v' (prR L)) ∧ (prE L ≠ 0 → bv = .slice none 0 0) := by
  have H := get8_start r v L w h hv
  have hlt := lt_of_block h.blk
  have hl8 : (rdr 8 L).length ≤ L.length := by
    have : ∀ n l, (rdr n l).length ≤ l.length := by
      intro n
      induction n with
      | zero => intro l; exact Nat.le_refl _
      | succ n ih =>
        intro l
        rw [rdr_succ]
        split
        · have := ih (l.drop (num 0 0 l).2.1.toNat)
          rw [List.length_drop] at this
          omega
        · exact Nat.le_refl _
    exact this 8 L
  clear h hv
  by_cases h8 : rde 8 L = 0
  case neg =>
    have hP : prE L = rde 8 L := by unfold prE; rw [if_pos h8]
    rw [hP]
    clear hP
    have hen : (rde 8 L != 0) = true := by simp [h8]
    generalize rde 8 L = E at H h8 hen ⊢
    go_enter Tryz.func76, Tryz.ntmps76
    go_wp2_with (fail)
    refine H.mono ?_
    rintro e w1 ⟨rfl, v1, hr1, hm1, ho1, hs1, hx, _⟩
    obtain ⟨k, o, lf, i, p, ps, g, st, rs, rr, sq, hmb⟩ := hx
    obtain ⟨a0, a1, a2, a3, a4, a5, a6, a7, a8, a9, a10, a11, a12⟩ := hmb.cells
    have hz := hmb.frz
    have hF := stm_mb hmb k o lf i p ps g false st rs rr sq (.slice none 0 0)
    have hMF := hm1.trans (stm_mod w1 w.heap.size k o lf i p ps g false st rs rr sq (.slice none 0 0)) (V := fun x => x = r) (fun _ _ h => h) (fun _ hi h => by omega)
    go_wp2
    show bodyPost _ _ _ _ _ (stm w1 w.heap.size k o lf i p ps g false st rs rr sq (.slice none 0 0))
    generalize stm w1 w.heap.size k o lf i p ps g false st rs rr sq (.slice none 0 0) = wF at hF hMF ⊢
    obtain ⟨d0, d1, d2, d3, d4, d5, d6, d7, d8, d9, d10, d11, d12⟩ := hF.cells
    exact bodyPost_ret (v := .tuple #[.agg #[.int .i64 k, .int .i64 o, .int .i64 lf, .int .i64 i, .int .i64 p, .int .i64 ps, .int .i64 g, .bool false, .int .i64 st, .int .i64 rs, .int .i64 rr, .int .i64 sq, .slice none 0 0], .int .i64 E]) (by simp [results, Tryz.results76, go_sem, d0, d1, d2, d3, d4, d5, d6, d7, d8, d9, d10, d11, d12]) rfl ⟨_, _, _, _, _, _, _, _, _, _, _, _, _, rfl, hMF, fun h => absurd h h8, fun _ => rfl⟩
  case pos =>
    rw [h8] at H
    obtain ⟨x7, e7⟩ : ∃ x, (rdv 8 L).getD 7 0 = x := ⟨_, rfl⟩
    have hx0 := (nums_getD (rdv_nums 8 L) 7).1
    rw [e7] at H hx0
    have hPM : prM L = Ms.mk ((rdv 8 L).getD 0 0) ((rdv 8 L).getD 1 0) ((rdv 8 L).getD 2 0) ((rdv 8 L).getD 3 0) ((rdv 8 L).getD 4 0) ((rdv 8 L).getD 5 0) ((rdv 8 L).getD 6 0) (decide (x7 = 1)) ((rdv 4 (rdr 8 L)).getD 0 0) ((rdv 4 (rdr 8 L)).getD 1 0) ((rdv 4 (rdr 8 L)).getD 2 0) ((rdv 4 (rdr 8 L)).getD 3 0) (obody (rdr 4 (rdr 8 L))) := by unfold prM; rw [e7]
    have hPE : prE L = if 1 < x7 then 4 else if rde 4 (rdr 8 L) ≠ 0 then rde 4 (rdr 8 L) else octE 160 (rdr 4 (rdr 8 L)) := by unfold prE; rw [if_neg (by simp [h8]), e7]
    have hPR : prR L = orest (rdr 4 (rdr 8 L)) := rfl
    rw [hPE, hPM, hPR]
    clear hPE hPM hPR e7 h8
    generalize rdr 8 L = L8 at H hl8 ⊢
    generalize (rdv 8 L).getD 0 0 = x0 at H ⊢
    generalize (rdv 8 L).getD 1 0 = x1 at H ⊢
    generalize (rdv 8 L).getD 2 0 = x2 at H ⊢
    generalize (rdv 8 L).getD 3 0 = x3 at H ⊢
    generalize (rdv 8 L).getD 4 0 = x4 at H ⊢
    generalize (rdv 8 L).getD 5 0 = x5 at H ⊢
    generalize (rdv 8 L).getD 6 0 = x6 at H ⊢
    by_cases h1 : 1 < x7
    case pos =>
      rw [if_pos h1]
      go_enter Tryz.func76, Tryz.ntmps76
      go_wp2_with (fail)
      refine H.mono ?_
      rintro e w1 ⟨rfl, v1, hr1, hm1, ho1, hs1, _, hok⟩
      obtain ⟨hmb, hib⟩ := hok trivial
      have c7 := hib.cell
      obtain ⟨a0, a1, a2, a3, a4, a5, a6, a7, a8, a9, a10, a11, a12⟩ := hmb.cells
      have hz := hmb.frz
      have hF := stm_mb hmb x0 x1 x2 x3 x4 x5 x6 false 0 0 0 0 (.slice none 0 0)
      have hMF := hm1.trans (stm_mod w1 w.heap.size x0 x1 x2 x3 x4 x5 x6 false 0 0 0 0 (.slice none 0 0)) (V := fun x => x = r) (fun _ _ h => h) (fun _ hi h => by omega)
      go_wp2
      show bodyPost _ _ _ _ _ (stm w1 w.heap.size x0 x1 x2 x3 x4 x5 x6 false 0 0 0 0 (.slice none 0 0))
      generalize stm w1 w.heap.size x0 x1 x2 x3 x4 x5 x6 false 0 0 0 0 (.slice none 0 0) = wF at hF hMF ⊢
      obtain ⟨d0, d1, d2, d3, d4, d5, d6, d7, d8, d9, d10, d11, d12⟩ := hF.cells
      exact bodyPost_ret (v := .tuple #[.agg #[.int .i64 x0, .int .i64 x1, .int .i64 x2, .int .i64 x3, .int .i64 x4, .int .i64 x5, .int .i64 x6, .bool false, .int .i64 0, .int .i64 0, .int .i64 0, .int .i64 0, .slice none 0 0], .int .i64 4]) (by simp [results, Tryz.results76, go_sem, d0, d1, d2, d3, d4, d5, d6, d7, d8, d9, d10, d11, d12]) rfl ⟨_, _, _, _, _, _, _, _, _, _, _, _, _, rfl, hMF, fun h => absurd h (by decide), fun _ => rfl⟩
    case neg =>
      rw [if_neg h1]
      have hs7 : (x7 == 1) = decide (x7 = 1) := rfl
      rw [← hs7]
      clear hs7
      obtain ⟨sb, hsb⟩ : ∃ b, (x7 == 1) = b := ⟨_, rfl⟩
      rw [hsb]
      have hx1 : x7 ≤ 1 := by omega
      clear h1
      have hl4 : (rdr 4 L8).length ≤ L8.length := by
        have : ∀ n l, (rdr n l).length ≤ l.length := by
          intro n
          induction n with
          | zero => intro l; exact Nat.le_refl _
          | succ n ih =>
            intro l
            rw [rdr_succ]
            split
            · have := ih (l.drop (num 0 0 l).2.1.toNat)
              rw [List.length_drop] at this
              omega
            · exact Nat.le_refl _
        exact this 4 L8
      by_cases h4 : rde 4 L8 = 0
      case neg =>
        rw [if_pos h4]
        have hen : (rde 4 L8 != 0) = true := by simp [h4]
        go_enter Tryz.func76, Tryz.ntmps76
        go_wp2_with (fail)
        refine H.mono ?_
        rintro e w1 ⟨rfl, v1, hr1, hm1, ho1, hs1, _, hok⟩
        obtain ⟨hmb, hib⟩ := hok trivial
        clear H hok
        have c7 := hib.cell
        have hz := hmb.frz
        have q7 := hmb.cells.2.2.2.2.2.2.2.1
        have hmb2 := hmb.b7 sb
        have hm2 := hm1.setCell ⟨w.heap.size, 7, none⟩ (.bool sb) (.inr (Nat.le_refl _))
        have hr2 : Rd (w1.setCell ⟨w.heap.size, 7, none⟩ (.bool sb)) r v1 L8 := hr1.mod ((Mod.refl (fun k => k = w.heap.size) w1).setCell _ _ (.inl rfl)) (by omega) (fun g hg e => by have := ho1 g hg; omega)
        have hsz : (w1.setCell ⟨w.heap.size, 7, none⟩ (.bool sb)).heap.size = w1.heap.size := by simp [World.setCell]
        go_wp2_with (fail)
        clear q7 hz c7 hib hmb hr1 hm1
        try rw [hsz]
        generalize w1.setCell ⟨w.heap.size, 7, none⟩ (.bool sb) = w2 at hmb2 hm2 hr2 hsz ⊢
        have hM : Mod (fun _ => False) w2 (w2.alloc (.cells #[Value.pointer (some ⟨w.heap.size, 8, none⟩), Value.pointer (some ⟨w.heap.size, 9, none⟩), Value.pointer (some ⟨w.heap.size, 10, none⟩), Value.pointer (some ⟨w.heap.size, 11, none⟩)] 127)) := (Mod.refl _ w2).alloc _
        have hp : PB (w2.alloc (.cells #[Value.pointer (some ⟨w.heap.size, 8, none⟩), Value.pointer (some ⟨w.heap.size, 9, none⟩), Value.pointer (some ⟨w.heap.size, 10, none⟩), Value.pointer (some ⟨w.heap.size, 11, none⟩)] 127)) w1.heap.size [(w.heap.size, 8), (w.heap.size, 9), (w.heap.size, 10), (w.heap.size, 11)] := by
          refine PB.of (t := 127) ?_
          have := heap_alloc_new w2 (.cells #[Value.pointer (some ⟨w.heap.size, 8, none⟩), Value.pointer (some ⟨w.heap.size, 9, none⟩), Value.pointer (some ⟨w.heap.size, 10, none⟩), Value.pointer (some ⟨w.heap.size, 11, none⟩)] 127)
          rw [hsz] at this
          exact this
        have hsz3 : (w2.alloc (.cells #[Value.pointer (some ⟨w.heap.size, 8, none⟩), Value.pointer (some ⟨w.heap.size, 9, none⟩), Value.pointer (some ⟨w.heap.size, 10, none⟩), Value.pointer (some ⟨w.heap.size, 11, none⟩)] 127)).heap.size = w1.heap.size + 1 := by simp [hsz]
        have hm3 := hm2.alloc (.cells #[Value.pointer (some ⟨w.heap.size, 8, none⟩), Value.pointer (some ⟨w.heap.size, 9, none⟩), Value.pointer (some ⟨w.heap.size, 10, none⟩), Value.pointer (some ⟨w.heap.size, 11, none⟩)] 127)
        refine (get4 r v1 L8 w.heap.size w1.heap.size 4 x0 x1 x2 x3 x4 x5 x6 sb 0 0 0 0 (.slice none 0 0) _ (hr2.mod hM (fun h => h) (fun _ _ h => h)) (hmb2.mod hM (fun h => h)) hp (by omega) (by omega) (by omega) (fun e => by have := ho1 _ e; omega)).mono ?_
        rintro e w4 ⟨rfl, v4, hr4, hm4, ho4, hx4, hok4⟩
        have hm5 : Mod (fun k => k = r) w w4 := hm3.trans hm4 (fun _ _ h => h) (by rintro i hi (h | h); exact h; omega)
        have hs5 : w.heap.size < w4.heap.size := by have := hm4.size; omega
        have hlt2 : r < w.heap.size := hlt
        obtain ⟨E, hE⟩ : ∃ E, rde 4 L8 = E := ⟨_, rfl⟩
        rw [hE] at h4 hen
        rw [hE]
        clear hok4 hr4 hp hM hm3 hm4 hmb2 hr2 hm2
        obtain ⟨k, o, lf, i, p, ps, g, st, rs, rr, sq, hmb⟩ := hx4
        obtain ⟨a0, a1, a2, a3, a4, a5, a6, a7, a8, a9, a10, a11, a12⟩ := hmb.cells
        have hz := hmb.frz
        have hF := stm_mb hmb k o lf i p ps g sb st rs rr sq (.slice none 0 0)
        have hMF := hm5.trans (stm_mod w4 w.heap.size k o lf i p ps g sb st rs rr sq (.slice none 0 0)) (V := fun x => x = r) (fun _ _ h => h) (fun _ hi h => by omega)
        go_wp2
        show bodyPost _ _ _ _ _ (stm w4 w.heap.size k o lf i p ps g sb st rs rr sq (.slice none 0 0))
        generalize stm w4 w.heap.size k o lf i p ps g sb st rs rr sq (.slice none 0 0) = wF at hF hMF ⊢
        obtain ⟨d0, d1, d2, d3, d4, d5, d6, d7, d8, d9, d10, d11, d12⟩ := hF.cells
        exact bodyPost_ret (v := .tuple #[.agg #[.int .i64 k, .int .i64 o, .int .i64 lf, .int .i64 i, .int .i64 p, .int .i64 ps, .int .i64 g, .bool sb, .int .i64 st, .int .i64 rs, .int .i64 rr, .int .i64 sq, .slice none 0 0], .int .i64 E]) (by simp [results, Tryz.results76, go_sem, d0, d1, d2, d3, d4, d5, d6, d7, d8, d9, d10, d11, d12]) rfl ⟨_, _, _, _, _, _, _, _, _, _, _, _, _, by rw [hE], hMF, fun h => absurd (hE ▸ h) h4, fun _ => rfl⟩
      case pos =>
        rw [if_neg (by simp [h4])]
        have G4 := fun v1 m b W => get4 r v1 L8 m b 4 x0 x1 x2 x3 x4 x5 x6 sb 0 0 0 0 (.slice none 0 0) W
        rw [h4] at G4
        generalize rdr 4 L8 = L4 at G4 hl4 ⊢
        generalize (rdv 4 L8).getD 0 0 = y0 at G4 ⊢
        generalize (rdv 4 L8).getD 1 0 = y1 at G4 ⊢
        generalize (rdv 4 L8).getD 2 0 = y2 at G4 ⊢
        generalize (rdv 4 L8).getD 3 0 = y3 at G4 ⊢
        have hlo : L4.length ≤ 140737488355328 := by omega
        by_cases hO : octE 160 L4 = 0
        case neg =>
          have HOB := fun v w h => Octets_bad r v L4 160 w h hO
          generalize octE 160 L4 = E at hO HOB ⊢
          go_enter Tryz.func76, Tryz.ntmps76
          go_wp2_with (fail)
          refine H.mono ?_
          rintro e w1 ⟨rfl, v1, hr1, hm1, ho1, hs1, _, hok⟩
          obtain ⟨hmb, hib⟩ := hok trivial
          clear H hok
          have c7 := hib.cell
          have hz := hmb.frz
          have q7 := hmb.cells.2.2.2.2.2.2.2.1
          have hmb2 := hmb.b7 sb
          have hm2 := hm1.setCell ⟨w.heap.size, 7, none⟩ (.bool sb) (.inr (Nat.le_refl _))
          have hr2 : Rd (w1.setCell ⟨w.heap.size, 7, none⟩ (.bool sb)) r v1 L8 := hr1.mod ((Mod.refl (fun k => k = w.heap.size) w1).setCell _ _ (.inl rfl)) (by omega) (fun g hg e => by have := ho1 g hg; omega)
          have hsz : (w1.setCell ⟨w.heap.size, 7, none⟩ (.bool sb)).heap.size = w1.heap.size := by simp [World.setCell]
          go_wp2_with (fail)
          clear q7 hz c7 hib hmb hr1 hm1
          try rw [hsz]
          generalize w1.setCell ⟨w.heap.size, 7, none⟩ (.bool sb) = w2 at hmb2 hm2 hr2 hsz ⊢
          have hM : Mod (fun _ => False) w2 (w2.alloc (.cells #[Value.pointer (some ⟨w.heap.size, 8, none⟩), Value.pointer (some ⟨w.heap.size, 9, none⟩), Value.pointer (some ⟨w.heap.size, 10, none⟩), Value.pointer (some ⟨w.heap.size, 11, none⟩)] 127)) := (Mod.refl _ w2).alloc _
          have hp : PB (w2.alloc (.cells #[Value.pointer (some ⟨w.heap.size, 8, none⟩), Value.pointer (some ⟨w.heap.size, 9, none⟩), Value.pointer (some ⟨w.heap.size, 10, none⟩), Value.pointer (some ⟨w.heap.size, 11, none⟩)] 127)) w1.heap.size [(w.heap.size, 8), (w.heap.size, 9), (w.heap.size, 10), (w.heap.size, 11)] := by
            refine PB.of (t := 127) ?_
            have := heap_alloc_new w2 (.cells #[Value.pointer (some ⟨w.heap.size, 8, none⟩), Value.pointer (some ⟨w.heap.size, 9, none⟩), Value.pointer (some ⟨w.heap.size, 10, none⟩), Value.pointer (some ⟨w.heap.size, 11, none⟩)] 127)
            rw [hsz] at this
            exact this
          have hsz3 : (w2.alloc (.cells #[Value.pointer (some ⟨w.heap.size, 8, none⟩), Value.pointer (some ⟨w.heap.size, 9, none⟩), Value.pointer (some ⟨w.heap.size, 10, none⟩), Value.pointer (some ⟨w.heap.size, 11, none⟩)] 127)).heap.size = w1.heap.size + 1 := by simp [hsz]
          have hm3 := hm2.alloc (.cells #[Value.pointer (some ⟨w.heap.size, 8, none⟩), Value.pointer (some ⟨w.heap.size, 9, none⟩), Value.pointer (some ⟨w.heap.size, 10, none⟩), Value.pointer (some ⟨w.heap.size, 11, none⟩)] 127)
          refine (G4 v1 w.heap.size w1.heap.size _ (hr2.mod hM (fun h => h) (fun _ _ h => h)) (hmb2.mod hM (fun h => h)) hp (by omega) (by omega) (by omega) (fun e => by have := ho1 _ e; omega)).mono ?_
          rintro e w4 ⟨rfl, v4, hr4, hm4, ho4, hx4, hok4⟩
          have hm5 : Mod (fun k => k = r) w w4 := hm3.trans hm4 (fun _ _ h => h) (by rintro i hi (h | h); exact h; omega)
          have hs5 : w.heap.size < w4.heap.size := by have := hm4.size; omega
          have hlt2 : r < w.heap.size := hlt
          obtain hmb := hok4 trivial
          clear hok4 hx4 hp hM hm3 hm4 hmb2 hr2 hm2 G4
          have HO := HOB v4 w4 hr4
          have hmb3 := hmb.v12 (.slice none 0 0)
          obtain ⟨b0, b1, b2, b3, b4, b5, b6, b7, b8, b9, b10, b11, b12⟩ := hmb.cells
          have hz2 := hmb.frz
          obtain ⟨a0, a1, a2, a3, a4, a5, a6, a7, a8, a9, a10, a11, a12⟩ := hmb3.cells
          have hz := hmb3.frz
          have hF := stm_mb hmb3 x0 x1 x2 x3 x4 x5 x6 sb y0 y1 y2 y3 (.slice none 0 0)
          have hMF := (hm5.setCell ⟨w.heap.size, 12, none⟩ (.slice none 0 0) (.inr (Nat.le_refl _))).trans (stm_mod _ w.heap.size x0 x1 x2 x3 x4 x5 x6 sb y0 y1 y2 y3 (.slice none 0 0)) (V := fun x => x = r) (fun _ _ h => h) (fun _ hi h => by omega)
          go_wp2_with (fail)
          refine HO.mono ?_
          rintro e w6 ⟨rfl, rfl⟩
          go_wp2
          show bodyPost _ _ _ _ _ (stm (w6.setCell ⟨w.heap.size, 12, none⟩ (.slice none 0 0)) w.heap.size x0 x1 x2 x3 x4 x5 x6 sb y0 y1 y2 y3 (.slice none 0 0))
          generalize stm (w6.setCell ⟨w.heap.size, 12, none⟩ (.slice none 0 0)) w.heap.size x0 x1 x2 x3 x4 x5 x6 sb y0 y1 y2 y3 (.slice none 0 0) = wF at hF hMF ⊢
          obtain ⟨d0, d1, d2, d3, d4, d5, d6, d7, d8, d9, d10, d11, d12⟩ := hF.cells
          exact bodyPost_ret (v := .tuple #[.agg #[.int .i64 x0, .int .i64 x1, .int .i64 x2, .int .i64 x3, .int .i64 x4, .int .i64 x5, .int .i64 x6, .bool sb, .int .i64 y0, .int .i64 y1, .int .i64 y2, .int .i64 y3, .slice none 0 0], .int .i64 E]) (by simp [results, Tryz.results76, go_sem, d0, d1, d2, d3, d4, d5, d6, d7, d8, d9, d10, d11, d12]) rfl ⟨_, _, _, _, _, _, _, _, _, _, _, _, _, rfl, hMF, fun h => absurd h hO, fun _ => rfl⟩
        case pos =>
          rw [hO]
          have hbd2 : obody L4 = List.take (num 0 0 L4).1.toNat (List.drop (num 0 0 L4).2.1.toNat L4) := rfl
          have hRR : orest L4 = L4.drop ((num 0 0 L4).2.1.toNat + (num 0 0 L4).1.toNat) := rfl
          rw [hbd2, hRR]
          have HOK := fun v w h => Octets_ok r v L4 160 w h hlo hO
          generalize (List.take (num 0 0 L4).1.toNat (List.drop (num 0 0 L4).2.1.toNat L4)) = bd at HOK ⊢
          generalize L4.drop ((num 0 0 L4).2.1.toNat + (num 0 0 L4).1.toNat) = L6 at HOK ⊢
          clear hO hbd2 hRR
          go_enter Tryz.func76, Tryz.ntmps76
          go_wp2_with (fail)
          refine H.mono ?_
          rintro e w1 ⟨rfl, v1, hr1, hm1, ho1, hs1, _, hok⟩
          obtain ⟨hmb, hib⟩ := hok trivial
          clear H hok
          have c7 := hib.cell
          have hz := hmb.frz
          have q7 := hmb.cells.2.2.2.2.2.2.2.1
          have hmb2 := hmb.b7 sb
          have hm2 := hm1.setCell ⟨w.heap.size, 7, none⟩ (.bool sb) (.inr (Nat.le_refl _))
          have hr2 : Rd (w1.setCell ⟨w.heap.size, 7, none⟩ (.bool sb)) r v1 L8 := hr1.mod ((Mod.refl (fun k => k = w.heap.size) w1).setCell _ _ (.inl rfl)) (by omega) (fun g hg e => by have := ho1 g hg; omega)
          have hsz : (w1.setCell ⟨w.heap.size, 7, none⟩ (.bool sb)).heap.size = w1.heap.size := by simp [World.setCell]
          go_wp2_with (fail)
          clear q7 hz c7 hib hmb hr1 hm1
          try rw [hsz]
          generalize w1.setCell ⟨w.heap.size, 7, none⟩ (.bool sb) = w2 at hmb2 hm2 hr2 hsz ⊢
          have hM : Mod (fun _ => False) w2 (w2.alloc (.cells #[Value.pointer (some ⟨w.heap.size, 8, none⟩), Value.pointer (some ⟨w.heap.size, 9, none⟩), Value.pointer (some ⟨w.heap.size, 10, none⟩), Value.pointer (some ⟨w.heap.size, 11, none⟩)] 127)) := (Mod.refl _ w2).alloc _
          have hp : PB (w2.alloc (.cells #[Value.pointer (some ⟨w.heap.size, 8, none⟩), Value.pointer (some ⟨w.heap.size, 9, none⟩), Value.pointer (some ⟨w.heap.size, 10, none⟩), Value.pointer (some ⟨w.heap.size, 11, none⟩)] 127)) w1.heap.size [(w.heap.size, 8), (w.heap.size, 9), (w.heap.size, 10), (w.heap.size, 11)] := by
            refine PB.of (t := 127) ?_
            have := heap_alloc_new w2 (.cells #[Value.pointer (some ⟨w.heap.size, 8, none⟩), Value.pointer (some ⟨w.heap.size, 9, none⟩), Value.pointer (some ⟨w.heap.size, 10, none⟩), Value.pointer (some ⟨w.heap.size, 11, none⟩)] 127)
            rw [hsz] at this
            exact this
          have hsz3 : (w2.alloc (.cells #[Value.pointer (some ⟨w.heap.size, 8, none⟩), Value.pointer (some ⟨w.heap.size, 9, none⟩), Value.pointer (some ⟨w.heap.size, 10, none⟩), Value.pointer (some ⟨w.heap.size, 11, none⟩)] 127)).heap.size = w1.heap.size + 1 := by simp [hsz]
          have hm3 := hm2.alloc (.cells #[Value.pointer (some ⟨w.heap.size, 8, none⟩), Value.pointer (some ⟨w.heap.size, 9, none⟩), Value.pointer (some ⟨w.heap.size, 10, none⟩), Value.pointer (some ⟨w.heap.size, 11, none⟩)] 127)
          refine (G4 v1 w.heap.size w1.heap.size _ (hr2.mod hM (fun h => h) (fun _ _ h => h)) (hmb2.mod hM (fun h => h)) hp (by omega) (by omega) (by omega) (fun e => by have := ho1 _ e; omega)).mono ?_
          rintro e w4 ⟨rfl, v4, hr4, hm4, ho4, hx4, hok4⟩
          have hm5 : Mod (fun k => k = r) w w4 := hm3.trans hm4 (fun _ _ h => h) (by rintro i hi (h | h); exact h; omega)
          have hs5 : w.heap.size < w4.heap.size := by have := hm4.size; omega
          have hlt2 : r < w.heap.size := hlt
          obtain hmb := hok4 trivial
          clear hok4 hx4 hp hM hm3 hm4 hmb2 hr2 hm2 G4
          have HO := HOK v4 w4 hr4
          go_wp2_with (fail)
          refine HO.mono ?_
          rintro e w6 ⟨bv, v6, rfl, hown, hr6, hm6, hb6, hv6⟩
          obtain ⟨ao6, cap6, rfl⟩ := hown.shape
          have hmb6 := hmb.mod hm6 (by omega)
          have hm7 : Mod (fun k => k = r) w w6 := hm5.trans hm6 (fun _ _ h => h) (fun _ _ h => h)
          have hs6 := hm6.size
          clear HO hr4 hmb hm5 hm6
          have hmb3 := hmb6.v12 (.slice ao6 bd.length cap6)
          obtain ⟨b0, b1, b2, b3, b4, b5, b6, b7, b8, b9, b10, b11, b12⟩ := hmb6.cells
          have hz2 := hmb6.frz
          obtain ⟨a0, a1, a2, a3, a4, a5, a6, a7, a8, a9, a10, a11, a12⟩ := hmb3.cells
          have hz := hmb3.frz
          have hF := stm_mb hmb3 x0 x1 x2 x3 x4 x5 x6 sb y0 y1 y2 y3 (.slice ao6 bd.length cap6)
          have hmS : Mod (fun x => x = w.heap.size) w6 (stm (w6.setCell ⟨w.heap.size, 12, none⟩ (.slice ao6 bd.length cap6)) w.heap.size x0 x1 x2 x3 x4 x5 x6 sb y0 y1 y2 y3 (.slice ao6 bd.length cap6)) :=
            ((Mod.refl (fun x => x = w.heap.size) w6).setCell _ _ (.inl rfl)).trans (stm_mod _ w.heap.size x0 x1 x2 x3 x4 x5 x6 sb y0 y1 y2 y3 (.slice ao6 bd.length cap6)) (fun _ _ h => h) (fun _ _ h => h)
          have hMF := hm7.trans hmS (V := fun x => x = r) (fun _ _ h => h) (fun _ hi h => by omega)
          have hoF := hown.mod hmS (fun g hg e => by have := hb6 g hg; omega)
          have hrF := hr6.mod hmS (by omega) (fun g hg e => by have := ho1 _ (ho4 _ (hv6 g hg)); omega)
          clear hmb3 hmb6
          go_wp2
          show bodyPost _ _ _ _ _ (stm (w6.setCell ⟨w.heap.size, 12, none⟩ (.slice ao6 bd.length cap6)) w.heap.size x0 x1 x2 x3 x4 x5 x6 sb y0 y1 y2 y3 (.slice ao6 bd.length cap6))
          generalize stm (w6.setCell ⟨w.heap.size, 12, none⟩ (.slice ao6 bd.length cap6)) w.heap.size x0 x1 x2 x3 x4 x5 x6 sb y0 y1 y2 y3 (.slice ao6 bd.length cap6) = wF at hF hMF hoF hrF ⊢
          obtain ⟨d0, d1, d2, d3, d4, d5, d6, d7, d8, d9, d10, d11, d12⟩ := hF.cells
          exact bodyPost_ret (v := .tuple #[.agg #[.int .i64 x0, .int .i64 x1, .int .i64 x2, .int .i64 x3, .int .i64 x4, .int .i64 x5, .int .i64 x6, .bool sb, .int .i64 y0, .int .i64 y1, .int .i64 y2, .int .i64 y3, .slice ao6 bd.length cap6], .int .i64 0]) (by simp [results, Tryz.results76, go_sem, d0, d1, d2, d3, d4, d5, d6, d7, d8, d9, d10, d11, d12]) rfl ⟨_, _, _, _, _, _, _, _, _, _, _, _, _, rfl, hMF, fun _ => ⟨rfl, hoF, fun g hg => by have := hb6 g hg; omega, _, hrF⟩, fun h => absurd rfl h⟩

end Go.Proofs.YthiijonmnebjgaaGreat
