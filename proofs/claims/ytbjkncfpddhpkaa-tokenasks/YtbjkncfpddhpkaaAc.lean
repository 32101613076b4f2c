/- Contracts of the library's BinarySearch and Insert of ints, and of token's add and leastAsked. Conditions: sizes that a slice has; lists that rise, of at most sixteen. -/
import Derived.Test.YtbjkncfpddhpkaaAl
namespace Go.Proofs.Ytbjkncfpddhpkaa
open Go.RowKit
theorem Aw.of_bk {w : World} {g cap : Nat} {l : List Int} {cur : Array Value} (hg : w.heap[g]? = some (.cells cur 3 (0, 0))) (h1 : l.length ≤ cap) (h2 : cap ≤ maxLen) (h3 : cap ≤ cur.size) (hc : ∀ j, j < l.length → cur[j]? = some (.int .i64 (l.getD j 0))) : Aw w (.slice (some ⟨g, 0, none⟩) l.length cap) l :=
  ⟨_, _, rfl, h1, h2, (by intro h; cases h), fun a ha => by cases ha; exact ⟨g, cur, rfl, hg, h3, hc⟩⟩
/-- x put in at i. -/
def insAt (l : List Int) (i : Nat) (x : Int) : List Int := l.take i ++ x :: l.drop i
theorem insAt_len (l : List Int) (i : Nat) (x : Int) (hi : i ≤ l.length) : (insAt l i x).length = l.length + 1 := by
  simp [insAt]
  omega
theorem insAt_get (l : List Int) (i : Nat) (x : Int) (hi : i ≤ l.length) (j : Nat) : (insAt l i x).getD j 0 = if j < i then l.getD j 0 else if j = i then x else l.getD (j - 1) 0 := by
  have ht : (l.take i).length = i := by simp; omega
  rw [insAt, List.getD_eq_getElem?_getD, List.getElem?_append, ht]
  by_cases h : j < i
  · rw [if_pos h, if_pos h, List.getElem?_take_of_lt h, List.getD_eq_getElem?_getD]
  · rw [if_neg h, if_neg h]
    by_cases e : j = i
    · subst e
      simp
    · rw [if_neg e]
      obtain ⟨k, hk⟩ : ∃ k, j - i = k + 1 := ⟨j - i - 1, by omega⟩
      have hk2 : i + k = j - 1 := by omega
      rw [hk, List.getElem?_cons_succ, List.getElem?_drop, List.getD_eq_getElem?_getD, hk2]
theorem ins_fin {w : World} {g cap : Nat} {l : List Int} {i : Nat} {x : Int} {cur : Array Value} (hi : i ≤ l.length) (hg : w.heap[g]? = some (.cells cur 3 (0, 0))) (h1 : l.length + 1 ≤ cap) (h2 : cap ≤ maxLen) (h3 : cap ≤ cur.size)
    (hc : ∀ j, j < l.length + 1 → cur[j]? = some (.int .i64 (if j < i then l.getD j 0 else if j = i then x else l.getD (j - 1) 0))) : Aw w (.slice (some ⟨g, 0, none⟩) (l.length + 1) cap) (insAt l i x) := by
  have hl := insAt_len l i x hi
  have := Aw.of_bk (l := insAt l i x) (cap := cap) hg (by omega) h2 h3 (fun j hj => by rw [insAt_get l i x hi]; exact hc j (by omega))
  rwa [hl] at this
theorem one_at {w : World} {b : Nat} {x : Int} {t : TypeId} (hb : w.heap[b]? = some (.cells #[.int .i64 x] t (0, 0))) : ∀ j v, [Value.int .i64 x][j]? = some v → w.cell? ⟨b, 0 + j, none⟩ = some v := fun j v hj => by
  cases j with
  | zero => simp at hj; subst hj; simp [World.cell?, hb]
  | succ n => simp at hj
theorem zeros_size (n : Nat) : (Builtin.zeroCells (Value.int .i64 0).cells n).size = n := by simp [Builtin.zeroCells, Value.cells]
theorem ones_one (x : Int) : ∀ v ∈ [Value.int .i64 x], v.oneCell' = true := fun v hv => by simp at hv; subst hv; rfl
theorem Bk.drew {w : World} {b : Nat} {t : TypeId} {xs : Array Value} (h : Bk w b t xs) : Bk w.drew b t xs := ⟨h.at'⟩
theorem U_drop_get (l : List Int) (i j : Nat) : ((Cr.U l).drop i)[j]? = if i + j < l.length then some (.int .i64 (l.getD (i + j) 0)) else none := by
  rw [List.getElem?_drop]
  by_cases h : i + j < l.length
  · rw [if_pos h, Cr.U_get l _ h]
  · rw [if_neg h, List.getElem?_eq_none (by rw [Cr.U_len]; omega)]
theorem ins_any (v : Value) (l : List Int) (i : Nat) (x : Int) (b : Nat) (w : World) (h : Aw w v l) (hi : i ≤ l.length) (hl : l.length ≤ 100) (hb : w.heap[b]? = some (.cells #[.int .i64 x] 3 (0, 0))) (hne : v.ownBlock ≠ some b) :
    Calls Try.prog 53 #[v, .int .i64 i, .slice (some ⟨b, 0, none⟩) 1 1] w fun e w' => ∃ g cap, e = .returned (.slice (some ⟨g, 0, none⟩) (l.length + 1) cap) ∧ Aw w' (.slice (some ⟨g, 0, none⟩) (l.length + 1) cap) (insAt l i x) ∧ Mod (fun k => v.ownBlock = some k) w w' ∧ (v.ownBlock = some g ∨ w.heap.size ≤ g) := by
  obtain ⟨ao, cap, rfl, h1, h2, h3, h4⟩ := h
  have hbc := one_at hb
  have hm2 : maxLen = 140737488355328 ∨ True := .inr trivial
  have hmx : l.length + 1 ≤ maxLen := by unfold maxLen; omega
  by_cases hr : l.length + 1 ≤ cap
  · cases ao with
    | none => have := h3 rfl; omega
    | some a =>
      obtain ⟨g, cur, rfl, hg, hcs, hcc⟩ := h4 a rfl
      have hBk : Bk w g 3 cur := ⟨hg⟩
      by_cases he : i = l.length
      · subst he
        refine (Any2.slices_Insert_int_end_room lays21 g 0 l.length cap b 0 1 1 [.int .i64 x] w (by omega) hr (by unfold maxLen at h2; omega) rfl
          (fun j hj => by rw [hBk.cell]; simp; omega) (fun j _ => hBk.frz _) hbc (ones_one x)).mono ?_
        rintro e w' ⟨rfl, rfl⟩
        have hB2 := Bk.stores [Value.int .i64 x] (0 + l.length) hBk
        refine ⟨g, cap, rfl, ins_fin (Nat.le_refl _) hB2.at' hr h2 (by rw [sets'_size]; exact hcs) (fun j hj => ?_), (setCells_mod g _ _ w).mono (fun k _ hk => by subst hk; rfl), .inl rfl⟩
        rw [sets'_get _ _ _ _ (by simp; omega)]
        by_cases hjl : j < l.length
        · rw [if_neg (by omega), if_pos hjl]
          exact hcc j hjl
        · obtain rfl : j = l.length := by omega
          rw [if_pos (by simp), if_neg hjl, if_pos rfl]
          simp
      · have hil : i < l.length := by omega
        have hsb : w.shape? g = some (3, cur.size) := by simp [World.shape?, hg]
        have hsa : w.shape? b = some (3, 1) := by simp [World.shape?, hb]
        have hfb : ∀ k, w.frozen? ⟨b, k, none⟩ = false := (Bk.mk hb : Bk w b 3 _).frz
        refine (Any2.slices_Insert_int_shift lays21 g 0 l.length cap i b 0 1 1 (Cr.U l) [.int .i64 x] w hil (by omega) hr (by unfold maxLen at h2; omega) (by rintro rfl; exact hne rfl) (Cr.U_len l) rfl
          (fun j v hv => by
            have hj : j < l.length := by
              rcases Nat.lt_or_ge j l.length with hj | hj
              · exact hj
              · rw [List.getElem?_eq_none (by rw [Cr.U_len]; exact hj)] at hv; cases hv
            rw [Cr.U_get l j hj] at hv
            cases hv
            rw [hBk.cell, Nat.zero_add, hcc j hj])
          (fun j hj => by rw [hBk.cell]; simp; omega) (fun j _ => hBk.frz _) hbc (Cr.U_one l) (ones_one x) 3 3 1 cur.size hsa hsb (by omega) (hfb _) (hfb _)).mono ?_
        rintro e w' ⟨rfl, rfl⟩
        have hB2 := Bk.stores [Value.int .i64 x] (0 + i) (Bk.stores ((Cr.U l).drop i) (0 + (i + 1)) hBk.drew)
        have hul : ((Cr.U l).drop i).length = l.length - i := by simp [Cr.U_len]
        refine ⟨g, cap, rfl, ins_fin hi hB2.at' hr h2 (by rw [sets'_size, sets'_size]; exact hcs) (fun j hj => ?_), (((Mod.refl (fun k => k = g) w).drew.trans (setCells_mod g _ _ _) (V := fun k => k = g) (fun _ _ h => h) (fun _ _ h => h)).trans (setCells_mod g _ _ _) (V := fun k => k = g) (fun _ _ h => h) (fun _ _ h => h)).mono (fun k _ hk => by subst hk; rfl), .inl rfl⟩
        rw [sets'_get _ _ _ _ (by rw [sets'_size]; simp; omega)]
        by_cases hjl : j < i
        · rw [if_neg (by omega), sets'_get _ _ _ _ (by rw [hul]; omega), if_neg (by omega), if_pos hjl]
          exact hcc j (by omega)
        · rw [if_neg hjl]
          by_cases hje : j = i
          · subst hje
            rw [if_pos (by simp), if_pos rfl]
            simp
          · rw [if_neg (by simp; omega), if_neg hje, sets'_get _ _ _ _ (by rw [hul]; omega), if_pos (by rw [hul]; omega), U_drop_get, if_pos (by omega)]
            have : i + (j - (0 + (i + 1))) = j - 1 := by omega
            rw [this]
  · have hcap : cap < l.length + 1 := by omega
    obtain ⟨cp, hcp⟩ : ∃ cp, cp = grownCap w (l.length + 1) cap 3 := ⟨_, rfl⟩
    have g1 : l.length + 1 ≤ cp := by rw [hcp]; exact grownCap_ge _ _ _ _
    have g2 : cp ≤ maxLen := by rw [hcp]; exact grownCap_le_maxLen _ _ _ _ hmx
    by_cases he : i = l.length
    · subst he
      refine (Any2.slices_Insert_int_end_grow lays21 ao l.length cap b 0 1 1 (Cr.U l) [.int .i64 x] w (by omega) h1 hcap (by omega) (Cr.U_len l) rfl (fun e => by have := h3 e; omega)
        (fun a ha j v hv => by
          obtain ⟨g, cur, rfl, hg, hcs, hcc⟩ := h4 a ha
          have hj : j < l.length := by
            rcases Nat.lt_or_ge j l.length with hj | hj
            · exact hj
            · rw [List.getElem?_eq_none (by rw [Cr.U_len]; exact hj)] at hv; cases hv
          rw [Cr.U_get l j hj] at hv
          cases hv
          rw [Cr.add_at, (Bk.mk hg : Bk w g 3 cur).cell, Nat.zero_add, hcc j hj]) hbc (ones_one x)).mono ?_
      rintro e w' ⟨rfl, rfl⟩
      rw [show grownCap w (l.length + 1) cap (lays21_ren.t 3) = cp from hcp.symm]
      refine ⟨w.heap.size, cp, rfl, ins_fin (Nat.le_refl _) (heap_alloc_new w.drew _) g1 g2 ?_ (fun j hj => ?_), (Mod.refl _ w).drew.alloc _, .inr (Nat.le_refl _)⟩
      · rw [Array.size_append, zeros_size]
        simp [Cr.U_len]
        omega
      · rw [Array.getElem?_append_left (by simp [Cr.U_len]; omega), List.getElem?_toArray, List.getElem?_append]
        by_cases hjl : j < l.length
        · rw [if_pos (by rw [Cr.U_len]; exact hjl), if_pos hjl, Cr.U_get l j hjl]
        · obtain rfl : j = l.length := by omega
          rw [if_neg (by rw [Cr.U_len]; exact hjl), if_neg hjl, if_pos rfl]
          simp [Cr.U_len]
    · have hil : i < l.length := by omega
      cases ao with
      | none => have := h3 rfl; omega
      | some a =>
        obtain ⟨g, cur, rfl, hg, hcs, hcc⟩ := h4 a rfl
        have hBk : Bk w g 3 cur := ⟨hg⟩
        refine (Any2.slices_Insert_int_grow lays21 g 0 l.length cap i b 0 1 1 (Cr.U l) [.int .i64 x] w hil (by omega) h1 hcap (by omega) (Cr.U_len l) rfl
          (fun j v hv => by
            have hj : j < l.length := by
              rcases Nat.lt_or_ge j l.length with hj | hj
              · exact hj
              · rw [List.getElem?_eq_none (by rw [Cr.U_len]; exact hj)] at hv; cases hv
            rw [Cr.U_get l j hj] at hv
            cases hv
            rw [hBk.cell, Nat.zero_add, hcc j hj]) hbc (Cr.U_one l) (ones_one x)).mono ?_
        rintro e w' ⟨rfl, rfl⟩
        rw [show grownCap w (l.length + 1) cap (lays21_ren.t 3) = cp from hcp.symm]
        obtain ⟨arr, har⟩ : ∃ arr, arr = ((Cr.U l).take i).toArray ++ Builtin.zeroCells (Value.int .i64 0).cells (l.length + 1 - i) ++ Builtin.zeroCells (Value.int .i64 0).cells (cp - (l.length + 1)) := ⟨_, rfl⟩
        rw [← har]
        have hsz : arr.size = cp := by
          rw [har, Array.size_append, Array.size_append, zeros_size, zeros_size]
          simp [Cr.U_len]
          omega
        have hti : ((Cr.U l).take i).length = i := by simp [Cr.U_len]; omega
        have hB0 := Bk.new w arr 3
        have hB2 := Bk.stores ((Cr.U l).drop i) (i + 1) (Bk.stores [Value.int .i64 x] i hB0.drew).drew
        have hul : ((Cr.U l).drop i).length = l.length - i := by simp [Cr.U_len]
        refine ⟨w.heap.size, cp, rfl, ins_fin hi hB2.at' g1 g2 (by rw [sets'_size, sets'_size, hsz]; omega) (fun j hj => ?_), ?_, .inr (Nat.le_refl _)⟩
        · by_cases hjl : j < i
          · rw [sets'_get _ _ _ _ (by rw [sets'_size, hul, hsz]; omega), if_neg (by omega), sets'_get _ _ _ _ (by rw [hsz]; simp; omega), if_neg (by omega), if_pos hjl, har, Array.append_assoc,
              Array.getElem?_append_left (by simp [Cr.U_len]; omega), List.getElem?_toArray, List.getElem?_take_of_lt hjl, Cr.U_get l j (by omega)]
          · rw [if_neg hjl]
            by_cases hje : j = i
            · subst hje
              rw [sets'_get _ _ _ _ (by rw [sets'_size, hul, hsz]; omega), if_neg (by omega), sets'_get _ _ _ _ (by rw [hsz]; simp; omega), if_pos (by simp), if_pos rfl]
              simp
            · rw [if_neg hje, sets'_get _ _ _ _ (by rw [sets'_size, hul, hsz]; omega), if_pos (by rw [hul]; omega), U_drop_get, if_pos (by omega)]
              have : i + (j - (i + 1)) = j - 1 := by omega
              rw [this]
        · have m1 := ((Mod.refl (fun _ => False) w).alloc (.cells arr 3)).drew
          have m2 := (m1.trans (setCells_mod w.heap.size [Value.int .i64 x] i _) (V := fun _ => False) (fun _ _ h => h) (fun k hk h => by omega)).drew
          exact (m2.trans (setCells_mod w.heap.size ((Cr.U l).drop i) (i + 1) _) (V := fun _ => False) (fun _ _ h => h) (fun k hk h => by omega)).none
end Go.Proofs.Ytbjkncfpddhpkaa
