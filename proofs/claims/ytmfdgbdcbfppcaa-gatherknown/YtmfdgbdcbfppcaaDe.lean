/- The document's gathering: rows of joins, New, May, last, Heard, Own, Agreed, Counter. Conditions: at most 300 joins. -/
import Derived.Test.YtmfdgbdcbfppcaaDd
namespace Go.Proofs.Ytmfdgbdcbfppcaa
open Go.RowKit Go.Maps Go.WideShapes
/-- A join that was told. -/
structure J3 where
  s : Int
  p : Int
  c : Int
def jcl (x : J3) : List Value := [.int .i64 x.s, .int .i64 x.p, .int .i64 x.c]
def fj : List J3 → List Value
  | [] => []
  | x :: l => jcl x ++ fj l
theorem fj_len : ∀ l, (fj l).length = l.length * 3
  | [] => rfl
  | x :: l => by rw [fj, List.length_append, fj_len l]; simp [jcl]; omega
theorem fj_app : ∀ a b, fj (a ++ b) = fj a ++ fj b
  | [], b => rfl
  | x :: a, b => by rw [List.cons_append, fj, fj, fj_app a b, List.append_assoc]
theorem fj_one : ∀ l, ∀ u ∈ fj l, u.oneCell' = true
  | [], u, h => by simp [fj] at h
  | x :: l, u, h => by
    rw [fj, List.mem_append] at h
    rcases h with h | h
    · simp [jcl] at h
      rcases h with rfl | rfl | rfl <;> rfl
    · exact fj_one l u h
theorem fj_get : ∀ (l : List J3) (i : Nat) (x : J3), l[i]? = some x → ∀ t, t < 3 → (fj l)[i * 3 + t]? = (jcl x)[t]?
  | [], i, x, h, _, _ => by simp at h
  | y :: l, 0, x, h, t, ht => by
    simp at h; subst h
    rw [fj, List.getElem?_append_left (by simp [jcl]; omega)]
    simp
  | y :: l, i + 1, x, h, t, ht => by
    have := fj_get l i x (by simpa using h) t ht
    rw [fj, List.getElem?_append_right (by simp [jcl]; omega), ← this]
    congr 1
    simp [jcl]; omega
/-- A row of joins that the call itself has made. -/
def RJ (w : World) (v : Value) (l : List J3) : Prop := w.ownsRow 0 34 3 v l.length (fj l)
theorem RJ.mod {S : Nat → Prop} {w w' : World} {v : Value} {l : List J3} (h : RJ w v l) (hm : Mod S w w') (hv : ∀ g, v.ownBlock = some g → ¬ S g) : RJ w' v l := by
  obtain ⟨h1, h2⟩ := h
  refine ⟨h1, ?_⟩
  rcases h2 with h2 | ⟨g, cap, cur, rfl, hb, hg, r⟩
  · exact Or.inl h2
  · exact Or.inr ⟨g, cap, cur, rfl, hb, hm.obj hg (hv g rfl), r⟩
theorem RJ.nil (w : World) : RJ w (.slice none 0 0) [] := World.ownsRow_nil _ _ _ _
theorem RJ.lt {w : World} {v : Value} {l : List J3} (h : RJ w v l) : ∀ g, v.ownBlock = some g → g < w.heap.size := fun g hg => (World.ownsRow.lt h g hg).2
theorem RJ.shape {w : World} {v : Value} {l : List J3} (h : RJ w v l) : ∃ ao cap, v = .slice ao l.length cap := by
  rcases h.2 with ⟨rfl, h0⟩ | ⟨g, cap, cur, rfl, _⟩
  · exact ⟨none, 0, by rw [h0]⟩
  · exact ⟨_, cap, rfl⟩
theorem RJ.has {w : World} {v : Value} {l : List J3} (h : RJ w v l) (hl : 0 < l.length) : ∃ g cap, v = .slice (some ⟨g, 0, none⟩) l.length cap ∧ ∀ i x, l[i]? = some x → w.cell? ⟨g, i * 3, none⟩ = some (.int .i64 x.s) ∧ w.cell? ⟨g, i * 3 + 1, none⟩ = some (.int .i64 x.p) ∧ w.cell? ⟨g, i * 3 + 2, none⟩ = some (.int .i64 x.c) := by
  rcases h.2 with ⟨rfl, h0⟩ | ⟨g, cap, cur, rfl, hb, hg, hn, hcm, hcs, ht⟩
  · omega
  · refine ⟨g, cap, rfl, fun i x hx => ?_⟩
    have hi : i < l.length := by
      rcases Nat.lt_or_ge i l.length with h | h
      · exact h
      · rw [List.getElem?_eq_none h] at hx; cases hx
    have hc : ∀ t, t < 3 → w.cell? ⟨g, i * 3 + t, none⟩ = (jcl x)[t]? := fun t ht' => by
      rw [← fj_get l i x hx t ht']
      have := World.ownsRow.cellAt h (i * 3 + t) (by omega)
      rw [this]
    exact ⟨by simpa [jcl] using hc 0 (by omega), by simpa [jcl] using hc 1 (by omega), by simpa [jcl] using hc 2 (by omega)⟩
theorem RJ.kind {w : World} {v : Value} {l : List J3} (h : RJ w v l) {g : Nat} (hg : v.ownBlock = some g) : ∃ cur, w.heap[g]? = some (.cells cur 34 (0, 0)) := by
  rcases h.2 with ⟨rfl, _⟩ | ⟨g', cap, cur, rfl, hb, hh, _⟩
  · simp [Value.ownBlock] at hg
  · simp only [Value.ownBlock, Option.some.injEq] at hg
    subst hg
    exact ⟨cur, hh⟩
theorem RJ.ne_bk {w : World} {v : Value} {l : List J3} (h : RJ w v l) {p : Nat} {t : TypeId} {xs : Array Value} (hb : Bk w p t xs) (ht : t ≠ 34) : v.ownBlock ≠ some p := fun e => by
  obtain ⟨cur, hc⟩ := h.kind e
  rw [hb.at'] at hc
  simp only [Option.some.injEq, Obj.cells.injEq] at hc
  exact ht hc.2.1
/-- The last of each sender; the greatest counter. -/
def lj (l : List J3) : Int → Option Jo := l.foldl (fun J x => upd J x.s (some ⟨x.p, x.c⟩)) (fun _ => none)
def mx (c : Int) (l : List J3) : Int := l.foldl (fun g x => max g x.c) c
theorem lj_app (l : List J3) (x : J3) : lj (l ++ [x]) = upd (lj l) x.s (some ⟨x.p, x.c⟩) := by simp [lj]
theorem mx_app (c : Int) (l : List J3) (x : J3) : mx c (l ++ [x]) = max (mx c l) x.c := by simp [mx]
theorem take_one {α : Type} (l : List α) (i : Nat) (x : α) (h : l[i]? = some x) : l.take (i + 1) = l.take i ++ [x] := by
  have hi : i < l.length := by
    rcases Nat.lt_or_ge i l.length with h' | h'
    · exact h'
    · rw [List.getElem?_eq_none h'] at h; cases h
  rw [List.take_succ_eq_append_getElem hi]
  rw [List.getElem?_eq_getElem hi] at h
  cases h
  rfl
theorem lj_some' (x : Int) : ∀ (l : List J3) (J : Int → Option Jo), (l.foldl (fun J x => upd J x.s (some ⟨x.p, x.c⟩)) J x).isSome = true ↔ ((J x).isSome = true ∨ x ∈ l.map J3.s)
  | [], J => by simp
  | y :: l, J => by
    rw [List.foldl_cons, lj_some' x l, List.map_cons, List.mem_cons]
    by_cases e : x = y.s
    · subst e; simp [upd_same]
    · rw [upd_other _ _ e]; simp [e]
theorem lj_some (x : Int) (l : List J3) : (lj l x).isSome = true ↔ x ∈ l.map J3.s := by
  rw [lj, lj_some']; simp
/-- The document's gathering in memory; Y: its blocks. -/
structure Dg (w : World) (p : Nat) (Y : Nat → Prop) (n c : Int) (l : List J3) : Prop where
  blk : ∃ v, Bk w p 59 #[.int .i64 n, .int .i64 c, v] ∧ RJ w v l ∧ ∀ g, v.ownBlock = some g → Y g
  py : Y p
  lt : ∀ i, Y i → i < w.heap.size
  gp : Gp n c (mx c l) (lj l)
theorem Dg.mod {S : Nat → Prop} {w w' : World} {p : Nat} {Y : Nat → Prop} {n c : Int} {l : List J3} (h : Dg w p Y n c l) (hm : Mod S w w') (hS : ∀ i, Y i → ¬ S i) : Dg w' p Y n c l := by
  obtain ⟨v, h1, h2, h3⟩ := h.blk
  exact ⟨⟨v, h1.mod hm (hS p h.py), h2.mod hm (fun g hg => hS g (h3 g hg)), h3⟩, h.py, fun i hi => Nat.lt_of_lt_of_le (h.lt i hi) hm.size, h.gp⟩
theorem Dg.keep {w w' : World} {p : Nat} {Y : Nat → Prop} {n c : Int} {l : List J3} (h : Dg w p Y n c l) (hm : Mod (fun _ => False) w w') : Dg w' p Y n c l := h.mod hm (fun _ _ h => h)
theorem number_w (c : Int) (w : World) : Calls Try.prog 26 #[.int .i64 c] w fun e w' => e = .returned (.bool (decide (0 ≤ c) && decide (c ≤ 9007199254740991))) ∧ w' = w := by
  rcases Int.lt_or_le c 0 with h | h
  all_goals
    go_enter Try.func26, Try.ntmps26
    go_wp2
    go_ret
    refine ⟨?_, rfl⟩
    simp
    try omega
set_option maxRecDepth 100000 in
theorem dNew_ok (n c : Int) (h : okN n c = true) (w : World) : Calls Try.prog 9 #[.int .i64 n, .int .i64 c] w fun e w' => ∃ p Y, e = .returned (.tuple #[.pointer (some ⟨p, 0, none⟩), .int .i64 0]) ∧ Dg w' p Y n c [] ∧ (∀ i, Y i → w.heap.size ≤ i) ∧ Mod (fun _ => False) w w' := by
  have hn : (1 ≤ n ∧ n ≤ 8) ∧ 0 ≤ c ∧ c ≤ 9007199254740991 := by simp [okN] at h; omega
  have HG : Hid (Gp n c c (fun _ => none)) := ⟨hn.1, hn.2, hn.2, by simp⟩
  have HI := number_w c w
  rw [show (decide (0 ≤ c) && decide (c ≤ 9007199254740991)) = true by simp; omega] at HI
  have h1 := hn.1.1
  have h2 := hn.1.2
  clear hn h
  go_enter Try.func9, Try.ntmps9
  go_wp2_with (go_at_call 26; refine HI.mono ?_; rintro e w' ⟨rfl, rfl⟩)
  go_ret2
  exact ⟨_, fun i => i = _, rfl, ⟨⟨.slice none 0 0, Bk.new _ _ _, RJ.nil _, by intro g hg; simp [Value.ownBlock] at hg⟩, rfl, fun i hi => by subst hi; simp, HG.out⟩, fun i hi => by omega, (Mod.refl _ _).alloc _⟩
set_option maxRecDepth 100000 in
theorem dNew_bad (n c : Int) (h : okN n c = false) (w : World) : Calls Try.prog 9 #[.int .i64 n, .int .i64 c] w fun e w' => e = .returned (.tuple #[.pointer none, .int .i64 2]) ∧ w' = w := by
  have HI := number_w c w
  rcases Int.lt_or_le n 1 with h1 | h1
  · clear h HI
    go_enter Try.func9, Try.ntmps9
    go_wp2
    go_ret2
    exact ⟨rfl, rfl⟩
  · rcases Int.lt_or_le 8 n with h2 | h2
    · clear h HI
      go_enter Try.func9, Try.ntmps9
      go_wp2
      go_ret2
      exact ⟨rfl, rfl⟩
    · rw [show (decide (0 ≤ c) && decide (c ≤ 9007199254740991)) = false by simp [okN] at h; simp; omega] at HI
      clear h
      go_enter Try.func9, Try.ntmps9
      go_wp2_with (go_at_call 26; refine HI.mono ?_; rintro e w' ⟨rfl, rfl⟩)
      go_ret2
      exact ⟨rfl, rfl⟩
set_option maxRecDepth 100000 in
set_option maxHeartbeats 1000000 in
theorem May_w (s p c : Int) (w : World) : Calls Try.prog 29 #[jv s p c] w fun e w' => e = .returned (.bool (mb s p c)) ∧ Mod (fun _ => False) w w' := by
  have HC := fun W => Cr.RCheck p W
  have HH := fun W => Cr.RHas p s W
  have HI := fun W => number_w c W
  have hA := (Mod.refl (fun _ => False) w).alloc (.cells #[.int .i64 s, .int .i64 p, .int .i64 c] 34)
  have HM : Hid (mb s p c = (decide (Cr.chk p = 0) && (Cr.has p s && (decide (0 ≤ c) && decide (c ≤ 9007199254740991))))) := rfl
  have HBJ : Hid (Bk (w.alloc (.cells #[.int .i64 s, .int .i64 p, .int .i64 c] 34)) w.heap.size 34 #[.int .i64 s, .int .i64 p, .int .i64 c]) := Bk.new w _ _
  unfold jv
  generalize mb s p c = r at HM ⊢
  have h2 := chk_two p
  have hno : (s < 1 ∨ 8 < s) → Cr.has p s = false := fun h => by simp [Cr.has, Cr.node]; omega
  generalize Cr.chk p = k at HC HM h2
  generalize Cr.has p s = b at HH HM hno
  generalize (decide (0 ≤ c) && decide (c ≤ 9007199254740991)) = d at HI HM
  rcases Int.lt_or_le s 1 with s1 | s1
  · have e : Hid (r = false) := (show _ = _ by rw [HM.out, hno (.inl s1)]; simp)
    clear HM hno
    go_enter Try.func29, Try.ntmps29
    go_wp2
    go_ret
    exact ⟨by rw [e.out]; rfl, hA⟩
  rcases Int.lt_or_le 8 s with s2 | s2
  · have e : Hid (r = false) := (show _ = _ by rw [HM.out, hno (.inr s2)]; simp)
    clear HM hno
    go_enter Try.func29, Try.ntmps29
    go_wp2
    go_ret
    exact ⟨by rw [e.out]; rfl, hA⟩
  clear hno
  rcases h2 with rfl | rfl
  · cases b
    · have e : Hid (r = false) := (show _ = _ by simpa using HM.out)
      clear HM
      go_enter Try.func29, Try.ntmps29
      go_wp2_with (first | (go_at_call 35; refine (HC _).mono ?_; rintro e w2 ⟨rfl, hm2⟩; have z0 := (HBJ.out.mod hm2 (fun h => h)).cellv (j := 0) rfl; have z1 := (HBJ.out.mod hm2 (fun h => h)).cellv (j := 1) rfl; have z2 := (HBJ.out.mod hm2 (fun h => h)).cellv (j := 2) rfl) | (go_at_call 36; refine (HH _).mono ?_; rintro e w' ⟨rfl, rfl⟩) | (go_at_call 26; refine (HI _).mono ?_; rintro e w' ⟨rfl, rfl⟩))
      go_ret
      exact ⟨by rw [e.out]; rfl, hA.and hm2⟩
    · have e : Hid (r = d) := (show _ = _ by simpa using HM.out)
      clear HM
      go_enter Try.func29, Try.ntmps29
      go_wp2_with (first | (go_at_call 35; refine (HC _).mono ?_; rintro e w2 ⟨rfl, hm2⟩; have z0 := (HBJ.out.mod hm2 (fun h => h)).cellv (j := 0) rfl; have z1 := (HBJ.out.mod hm2 (fun h => h)).cellv (j := 1) rfl; have z2 := (HBJ.out.mod hm2 (fun h => h)).cellv (j := 2) rfl) | (go_at_call 36; refine (HH _).mono ?_; rintro e w' ⟨rfl, rfl⟩) | (go_at_call 26; refine (HI _).mono ?_; rintro e w' ⟨rfl, rfl⟩))
      go_ret
      exact ⟨by rw [e.out]; rfl, hA.and hm2⟩
  · have e : Hid (r = false) := (show _ = _ by simpa using HM.out)
    clear HM
    go_enter Try.func29, Try.ntmps29
    go_wp2_with (first | (go_at_call 35; refine (HC _).mono ?_; rintro e w2 ⟨rfl, hm2⟩; have z0 := (HBJ.out.mod hm2 (fun h => h)).cellv (j := 0) rfl; have z1 := (HBJ.out.mod hm2 (fun h => h)).cellv (j := 1) rfl; have z2 := (HBJ.out.mod hm2 (fun h => h)).cellv (j := 2) rfl) | (go_at_call 36; refine (HH _).mono ?_; rintro e w' ⟨rfl, rfl⟩) | (go_at_call 26; refine (HI _).mono ?_; rintro e w' ⟨rfl, rfl⟩))
    go_ret
    exact ⟨by rw [e.out]; rfl, hA.and hm2⟩
/-- What last answers. -/
theorem lj_take (l : List J3) (i : Nat) (x : J3) (h : l[i]? = some x) (s : Int) : lj (l.take (i + 1)) s = if s = x.s then some ⟨x.p, x.c⟩ else lj (l.take i) s := by
  rw [take_one l i x h, lj_app]
  by_cases e : s = x.s
  · rw [if_pos e, e, upd_same]
  · rw [if_neg e, upd_other _ _ e]
set_option maxRecDepth 100000 in
set_option maxHeartbeats 2000000 in
theorem last_w {w : World} {p : Nat} {Y : Nat → Prop} {n c : Int} {l : List J3} (h : Dg w p Y n c l) (hlen : l.length ≤ 300) (s : Int) : Calls Try.prog 30 #[.pointer (some ⟨p, 0, none⟩), .int .i64 s] w fun e w' => e = .returned (.tuple #[mj (lj l s) s, .bool (lj l s).isSome]) ∧ Mod (fun _ => False) w w' := by
  obtain ⟨v, h1, h2, h3⟩ := h.blk
  obtain ⟨ao, cap, rfl⟩ := h2.shape
  have hA := (Mod.refl (fun _ => False) w).alloc (.cells #[.int .i64 0, .int .i64 0, .int .i64 0] 34)
  have HA : Hid (Mod (fun _ => False) w (w.alloc (.cells #[.int .i64 0, .int .i64 0, .int .i64 0] 34))) := hA
  have c2 : (w.alloc (.cells #[.int .i64 0, .int .i64 0, .int .i64 0] 34)).cell? ⟨p, 2, none⟩ = some (.slice ao l.length cap) := (h1.mod hA (fun h => h)).cellv (j := 2) rfl
  have HR : Hid (RJ (w.alloc (.cells #[.int .i64 0, .int .i64 0, .int .i64 0] 34)) (.slice ao l.length cap) l) := h2.mod hA (fun _ _ h => h)
  have HB : Hid (Bk (w.alloc (.cells #[.int .i64 0, .int .i64 0, .int .i64 0] 34)) w.heap.size 34 #[.int .i64 0, .int .i64 0, .int .i64 0]) := Bk.new w _ _
  have HE : Hid (lj l s = lj (l.take l.length) s) := (show _ = _ by rw [List.take_length])
  have HT : Hid (mj (lj l s) s = mj (lj l s) s ∧ (lj l s).isSome = (lj l s).isSome) := ⟨rfl, rfl⟩
  clear h h1 h2 h3 hA
  go_enter Try.func30, Try.ntmps30
  go_wp2_with (fail)
  go_loopw [6] (fun i wr => ∃ k : Nat, i = .int .i64 ((k : Int) - 1) ∧ k ≤ l.length ∧ Hid (lj l s = lj (l.take k) s) ∧ wr = w.alloc (.cells #[.int .i64 0, .int .i64 0, .int .i64 0] 34)) (fun i _ => (intOf i + 1).toNat)
  case atStart => exact ⟨l.length, by simp, Nat.le_refl _, HE, rfl⟩
  case round =>
    obtain ⟨k, e, hk, hl, rfl⟩ := hrel
    clear HE
    by_cases h0 : k = 0
    · have HL : Hid (lj l s = none) := (show _ = _ by rw [hl.out, h0]; rfl)
      have e2 : u6 = .int .i64 (-1) := by rw [e, h0]; rfl
      subst e2
      clear e hl h0 hk
      go_wp2_with (refine wpList_store_row info3c rfl rfl _ _ rfl w.heap.size #[.int .i64 0, .int .i64 0, .int .i64 0] rfl rfl HB.out rfl rfl rfl ?_; intro wF hBF hMF)
      exact bodyPost_ret (resT2 info3c Try.underlying34 rfl rfl rfl rfl hBF rfl) rfl ⟨by rw [HL.out]; rfl, HA.out.trans hMF (V := fun _ => False) (fun _ _ h => h) (fun q hq h => by omega)⟩
    · obtain ⟨j, rfl⟩ : ∃ j, k = j + 1 := ⟨k - 1, by omega⟩
      have e2 : u6 = .int .i64 (j : Int) := by rw [e]; simp
      subst e2
      obtain ⟨x, hx⟩ : ∃ x, l[j]? = some x := ⟨_, List.getElem?_eq_getElem (by omega)⟩
      have HT := lj_take l j x hx s
      obtain ⟨g, cap', ev, hc⟩ := HR.out.has (by omega)
      cases ev
      obtain ⟨d0, d1, d2⟩ := hc j x hx
      have hj1 : (j : Int) < (l.length : Int) := by omega
      by_cases hs : s = x.s
      · rw [if_pos hs] at HT
        have HL : Hid (lj l s = some ⟨x.p, x.c⟩) := (show _ = _ by rw [hl.out, HT])
        have hq : (x.s == s) = true := by simp [hs]
        have HS : Hid (s = x.s) := hs
        clear HT hl hs e hx hc hk
        go_wp2_with (refine wpList_store_row info3c rfl rfl _ _ rfl w.heap.size #[.int .i64 x.s, .int .i64 x.p, .int .i64 x.c] rfl rfl HB.out rfl rfl rfl ?_; intro wF hBF hMF)
        exact bodyPost_ret (resT2 info3c Try.underlying34 rfl rfl rfl rfl hBF rfl) rfl ⟨by rw [HL.out, HS.out]; rfl, HA.out.trans hMF (V := fun _ => False) (fun _ _ h => h) (fun q hq h => by omega)⟩
      · rw [if_neg hs] at HT
        have HL : Hid (lj l s = lj (l.take j) s) := (show _ = _ by rw [hl.out, HT])
        have hq : (x.s == s) = false := by simpa using fun h : x.s = s => hs h.symm
        clear HT hl hs e hx hc
        go_wp2
        go_roundw
        case rel => exact ⟨j, rfl, by omega, HL, trivial⟩
        case measure => simp [intOf]
end Go.Proofs.Ytmfdgbdcbfppcaa
