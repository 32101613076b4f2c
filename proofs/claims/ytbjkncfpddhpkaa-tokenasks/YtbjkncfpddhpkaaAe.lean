/- Contracts of Visit with any gaps, of New, and of the law's own token and visits. Conditions: tokens that may be, sizes that a slice has. -/
import Derived.Test.YtbjkncfpddhpkaaAd
namespace Go.Proofs.Ytbjkncfpddhpkaa
open Go.RowKit
theorem asc_sorted (last : Int) : ∀ (l : List Int) (least : Int), asc last least l = true → l.Pairwise (· < ·) ∧ ∀ x ∈ l, least ≤ x ∧ x ≤ last
  | [], _, _ => ⟨.nil, by simp⟩
  | v :: r, least, h => by
    simp only [asc, win, Bool.and_eq_true, decide_eq_true_eq] at h
    obtain ⟨h1, h2⟩ := asc_sorted last r (v + 1) h.2
    refine ⟨List.pairwise_cons.2 ⟨fun x hx => by have := h2 x hx; omega, h1⟩, fun x hx => ?_⟩
    rcases List.mem_cons.1 hx with rfl | hx
    · exact h.1
    · have := h2 x hx
      omega
theorem okT_ask {rs rr hp sq ar lw st ix : Int} {l : List Int} (h : okT ⟨rs, rr, hp, sq, ar, lw, st, ix, l⟩ = true) : l.length ≤ 16 ∧ l.Pairwise (· < ·) ∧ (∀ x ∈ l, 1 ≤ x ∧ x ≤ sq) ∧ 0 ≤ sq ∧ sq ≤ 9007199254740991 := by
  rw [okT_eq] at h
  simp only [Bool.and_eq_true, cask, decide_eq_true_eq, nm] at h
  obtain ⟨_, _, h3, _, _, _, _, h8, h9⟩ := h
  obtain ⟨p, q⟩ := asc_sorted sq l 1 h9
  exact ⟨h8, p, q, h3⟩
theorem visit_ok (rs rr hp sq ar lw st ix n a : Int) (ao : Option Addr) (cap : Nat) (l : List Int) (gv : Value) (G : List Int) (w : World) (hs : Cr.Sl w (.slice ao l.length cap) l) (hG : Cr.Sl w gv G)
    (hok : okT ⟨rs, rr, hp, sq, ar, lw, st, ix, l⟩ = true) (hhp : hp ≠ 9007199254740991) (hnd : nd n = true) (hna : 0 ≤ a) :
    Calls Try.prog 9 #[.agg #[.int .i64 rs, .int .i64 rr, .int .i64 hp, .int .i64 sq, .int .i64 ar, .int .i64 lw, .int .i64 st, .int .i64 ix, .slice ao l.length cap], .int .i64 n, .int .i64 a, gv] w fun e w' => ∃ ao2 cap2, e = .returned (.agg #[.int .i64 rs, .int .i64 rr, .int .i64 (hp + 1), .int .i64 sq, .int .i64 (vA a n sq ar lw), .int .i64 (vL a n sq ar lw), .int .i64 st, .int .i64 ix, .slice ao2 (lsk sq l G).length cap2]) ∧ Aw w' (.slice ao2 (lsk sq l G).length cap2) (lsk sq l G) ∧ Mod (fun _ => False) w w' ∧ (∀ g, (Value.slice ao2 (lsk sq l G).length cap2).ownBlock = some g → w.heap.size ≤ g) := by
  obtain ⟨h1, h2, h3, h4⟩ := okT_ask hok
  exact tVisit_ok rs rr hp sq ar lw st ix n a ao cap l (lsk sq l G) gv w hs (fun x hx => by have := h3 x hx; unfold I64; omega) hok hhp hnd hna
    (fun W hp2 ar2 lw2 hm => least_any rs rr hp2 sq ar2 lw2 st ix ao cap l gv G W (hs.mod hm fun _ _ h => h) (hG.mod hm fun _ _ h => h) h1 h2)
theorem nilSl (w : World) : Cr.Sl w (.slice none 0 0) [] := (Cr.Own.nil w).sl
set_option maxRecDepth 100000 in
set_option maxHeartbeats 4000000 in
theorem tNew_ok (q r s : Int) (w : World) (hok : okT ⟨q, r, 1, 0, 0, 0, s, 0, []⟩ = true) :
    Calls Try.prog 17 #[.agg #[.int .i64 q, .int .i64 r], .int .i64 s] w fun e w' => e = .returned (.tuple #[.agg #[.int .i64 q, .int .i64 r, .int .i64 1, .int .i64 0, .int .i64 0, .int .i64 0, .int .i64 s, .int .i64 0, .slice none 0 0], .int .i64 0]) ∧ Mod (fun _ => False) w w' := by
  have hC := fun W => tCheck q r 1 0 0 0 s 0 none 0 [] W (nilSl W) (by simp)
  rw [show ckT ⟨q, r, 1, 0, 0, 0, s, 0, []⟩ = 0 by rw [ckT, if_pos hok]] at hC
  simp only [List.length_nil] at hC
  clear hok
  obtain ⟨wA, hwA⟩ : ∃ W, W = (w.alloc (.cells #[.int .i64 q, .int .i64 r] 23)).alloc (.cells #[.int .i64 0, .int .i64 0, .int .i64 0, .int .i64 0, .int .i64 0, .int .i64 0, .int .i64 0, .int .i64 0, .slice none 0 0] 26) := ⟨_, rfl⟩
  have hsz : wA.heap.size = w.heap.size + 2 := by rw [hwA]; simp
  have hMA : Mod (fun _ => False) w wA := by rw [hwA]; exact ((Mod.refl _ _).alloc _).alloc _
  have hBA : Bk wA (w.heap.size + 1) 26 #[.int .i64 0, .int .i64 0, .int .i64 0, .int .i64 0, .int .i64 0, .int .i64 0, .int .i64 0, .int .i64 0, .slice none 0 0] := by
    have := Bk.new (w.alloc (.cells #[.int .i64 q, .int .i64 r] 23)) #[.int .i64 0, .int .i64 0, .int .i64 0, .int .i64 0, .int .i64 0, .int .i64 0, .int .i64 0, .int .i64 0, .slice none 0 0] 26
    rw [← hwA] at this
    simpa using this
  have hMB := hMA.alloc (.cells #[.int .i64 0, .int .i64 0, .int .i64 0, .int .i64 0, .int .i64 0, .int .i64 0, .int .i64 0, .int .i64 0, .slice none 0 0] 26)
  have hBB := Bk.new wA #[.int .i64 0, .int .i64 0, .int .i64 0, .int .i64 0, .int .i64 0, .int .i64 0, .int .i64 0, .int .i64 0, .slice none 0 0] 26
  have hBA2 := hBA.mod ((Mod.refl (fun _ => False) wA).alloc (.cells #[.int .i64 0, .int .i64 0, .int .i64 0, .int .i64 0, .int .i64 0, .int .i64 0, .int .i64 0, .int .i64 0, .slice none 0 0] 26)) fun h => h
  rw [hsz] at hBB
  rw [hwA] at hMB hBB hBA2
  clear hMA hBA hsz hwA
  go_enter Try.func17, Try.ntmps17
  go_wp2_with (first | (refine wpList_store_row infoT rfl rfl _ _ rfl (w.heap.size + 2) #[.int .i64 q, .int .i64 r, .int .i64 1, .int .i64 0, .int .i64 0, .int .i64 0, .int .i64 s, .int .i64 0, .slice none 0 0] rfl rfl hBB rfl rfl rfl ?_; intro wF hBF hMF) | (refine wpList_load_row infoT Try.underlying26 rfl rfl _ rfl (w.heap.size + 2) rfl hBF rfl ?_; simp only [Act.put, List.setIfInBounds_toArray, List.set_cons_succ, List.set_cons_zero]))
  refine (hC _).mono ?_
  rintro e w1 ⟨rfl, m1⟩
  have hB1 := (hBA2.mod hMF (by omega)).mod m1 fun h => h
  have hB2 := hBF.mod m1 fun h => h
  have hM := (hMB.trans hMF (V := fun _ => False) (fun _ _ h => h) (fun i hi h => by omega)).and m1
  go_wp2_with (first | (refine wpList_load_row infoT Try.underlying26 rfl rfl _ rfl (w.heap.size + 2) rfl hB2 rfl ?_; simp only [Act.put, List.setIfInBounds_toArray, List.set_cons_succ, List.set_cons_zero]) | (refine wpList_store_row infoT rfl rfl _ _ rfl (w.heap.size + 1) #[.int .i64 q, .int .i64 r, .int .i64 1, .int .i64 0, .int .i64 0, .int .i64 0, .int .i64 s, .int .i64 0, .slice none 0 0] rfl rfl hB1 rfl rfl rfl ?_; intro wG hBG hMG))
  exact bodyPost_ret (resT2 infoT Try.underlying26 rfl rfl rfl rfl hBG rfl) rfl ⟨rfl, hM.trans hMG (V := fun _ => False) (fun _ _ h => h) (fun i hi h => by omega)⟩
set_option maxRecDepth 100000 in
set_option maxHeartbeats 4000000 in
theorem usual_any (w : World) : Calls Try.prog 29 #[] w fun e w' => e = .returned (.agg #[.int .i64 4, .int .i64 1, .int .i64 1, .int .i64 9, .int .i64 5, .int .i64 3, .int .i64 20, .int .i64 0, .slice none 0 0]) ∧ Mod (fun _ => False) w w' := by
  have hN := fun W => tNew_ok 4 1 20 W (by decide)
  have hM0 := (Mod.refl (fun _ => False) w).alloc (.cells #[.int .i64 0, .int .i64 0, .int .i64 0, .int .i64 0, .int .i64 0, .int .i64 0, .int .i64 0, .int .i64 0, .slice none 0 0] 26)
  have hB0 := Bk.new w #[.int .i64 0, .int .i64 0, .int .i64 0, .int .i64 0, .int .i64 0, .int .i64 0, .int .i64 0, .int .i64 0, .slice none 0 0] 26
  go_enter Try.func29, Try.ntmps29
  go_wp2_with (fail)
  refine (hN _).mono ?_
  rintro e w1 ⟨rfl, m1⟩
  have hM1 := hM0.and m1
  have hB1 := hB0.mod m1 fun h => h
  have hB2 := hB1.mod ((Mod.refl (fun _ => False) w1).alloc (.cells #[.int .i64 0, .int .i64 0, .int .i64 0, .int .i64 0, .int .i64 0, .int .i64 0, .int .i64 0, .int .i64 0, .slice none 0 0] 26)) fun h => h
  have hM2 := hM1.alloc (.cells #[.int .i64 0, .int .i64 0, .int .i64 0, .int .i64 0, .int .i64 0, .int .i64 0, .int .i64 0, .int .i64 0, .slice none 0 0] 26)
  have hBz := Bk.new w1 #[.int .i64 0, .int .i64 0, .int .i64 0, .int .i64 0, .int .i64 0, .int .i64 0, .int .i64 0, .int .i64 0, .slice none 0 0] 26
  obtain ⟨b2, hb2⟩ : ∃ b, b = w1.heap.size := ⟨_, rfl⟩
  have hlt : w.heap.size < b2 := by rw [hb2]; exact hB1.lt
  have HB2 : Hid (b2 = w1.heap.size) := hb2
  rw [← hb2] at hBz
  go_wp2_with (first | (refine wpList_store_row infoT rfl rfl _ _ rfl b2 #[.int .i64 4, .int .i64 1, .int .i64 1, .int .i64 0, .int .i64 0, .int .i64 0, .int .i64 20, .int .i64 0, .slice none 0 0] (by rw [hb2]; rfl) rfl hBz rfl rfl rfl ?_; intro wF hBF hMF; rw [hb2] at hBF; have c3 := hBF.cellv (j := 3) rfl; have c4 := hBF.cellv (j := 4) rfl; have c5 := hBF.cellv (j := 5) rfl; have f3 := hBF.frz 3; have f4 := hBF.frz 4; have f5 := hBF.frz 5; have hBS := ((hBF.set 3 (.int .i64 9)).set 4 (.int .i64 5)).set 5 (.int .i64 3); simp only [List.setIfInBounds_toArray, List.set_cons_succ, List.set_cons_zero] at hBS; have hB3 := (((hB2.mod hMF (by omega)).other ⟨w1.heap.size, 3, none⟩ (.int .i64 9) (by show w1.heap.size ≠ w.heap.size; omega)).other ⟨w1.heap.size, 4, none⟩ (.int .i64 5) (by show w1.heap.size ≠ w.heap.size; omega)).other ⟨w1.heap.size, 5, none⟩ (.int .i64 3) (by show w1.heap.size ≠ w.heap.size; omega)) | (refine wpList_load_row infoT Try.underlying26 rfl rfl _ rfl w1.heap.size rfl hBS rfl ?_; simp only [Act.put, List.setIfInBounds_toArray, List.set_cons_succ, List.set_cons_zero]) | (refine wpList_store_row infoT rfl rfl _ _ rfl w.heap.size #[.int .i64 4, .int .i64 1, .int .i64 1, .int .i64 9, .int .i64 5, .int .i64 3, .int .i64 20, .int .i64 0, .slice none 0 0] rfl rfl hB3 rfl rfl rfl ?_; intro wG hBG hMG))
  have hM3 := hM2.trans hMF (V := fun _ => False) (fun _ _ h => h) (fun i hi h => by omega)
  have hM4 := ((hM3.setCell ⟨w1.heap.size, 3, none⟩ (.int .i64 9) (.inr (by show w.heap.size ≤ w1.heap.size; omega))).setCell ⟨w1.heap.size, 4, none⟩ (.int .i64 5) (.inr (by show w.heap.size ≤ w1.heap.size; omega))).setCell ⟨w1.heap.size, 5, none⟩ (.int .i64 3) (.inr (by show w.heap.size ≤ w1.heap.size; omega))
  exact bodyPost_ret (resT infoT Try.underlying26 rfl rfl rfl hBG rfl) rfl ⟨rfl, hM4.trans hMG (V := fun _ => False) (fun _ _ h => h) (fun i hi h => by omega)⟩
end Go.Proofs.Ytbjkncfpddhpkaa
