/- The program's lane: what Double, Take, Flip and Reaches answer, and what they leave. Conditions: a lane that New made. -/
import Derived.Test.YthmglemjlinlgaaLp
namespace Go.Proofs.Ythmglemjlinlgaa
open Go.RowKit
/-- Datagrams copied within their row: those behind the place i come one place to the front. -/
theorem run_copy3 (w : World) (ty : TypeId) (g o dLen dCap : Nat) (a : Addr) (sLen sCap : Nat) (cur : Array Value) (t : TypeId) (cs : List Value)
    (hg : w.heap[g]? = some (.cells cur t (0, 0))) (hn : cs.length = Nat.min sLen dLen * 3)
    (hsrc : ∀ j v, cs[j]? = some v → w.cell? (a.add j) = some v) (hfit : o + cs.length ≤ cur.size) (h1 : ∀ v ∈ cs, v.oneCell' = true) :
    (Builtin.copy_ #[45, 45] ty #[.slice (some ⟨g, o, none⟩) dLen dCap, .slice (some a) sLen sCap]).run Try.prog w =
      .ok (goInt (Nat.min sLen dLen)) (w.setRow g (cur.toList.take o ++ cs ++ cur.toList.drop (o + cs.length)).toArray) := by
  have hl := run_loadCells_list (P := Try.prog) w a cs hsrc
  have hst := run_storeCells_at Try.prog g o t cs 0 cur w hg (by simpa using hfit) h1
  obtain ⟨i0, hi, hz0, hz1, hz2⟩ := info_parts infoDg
  rw [hn] at hl
  simp [Builtin.copy_, run_underlying Try.underlying45, Builtin.lenOf, Builtin.firstCells, sizeOf, typeInfo, hi, hz1, hl, hst]
theorem step_copy_out {ops : Array Oper} {o : Oper} {a : Act} {w : World} {K : Act → World → Prop} {Q : Exit → Act → World → Prop} {E : Prop} (hgd : o.guard = none) (d s : Operand) (t t' : TypeId)
    (ho : o.op = .call { callee := .builtin .copy, args := #[d, s], argTypes := #[t, t'] }) (v u : Value) (hd : a.eval d = v) (hs : a.eval s = u) {v' : Value} {R : World → Prop}
    (hr : ∃ w', (Builtin.copy_ #[t, t'] o.type #[v, u]).run Try.prog w = .ok v' w' ∧ R w') (h : ∀ w', R w' → K (a.put o.dst v') w') :
    if Region.wanted o (yielded ops a.tmps) = true then Oper.wp Try.prog o a w K Q else E := by
  have hw : Region.wanted o (yielded ops a.tmps) = true := by simp [Region.wanted, hgd]
  rw [if_pos hw]
  obtain ⟨w', hrun, hR⟩ := hr
  unfold Oper.wp execOp
  simp only [ho, resolve, invoke, builtin, Sem.run_bind, Sem.run_pure, Result.andThen_ok, List.map_toArray, List.map_cons, List.map_nil, hd, hs, hrun]
  exact h w' hR
set_option maxRecDepth 100000 in
set_option maxHeartbeats 1000000 in
theorem Double_any {p : Nat} {L : List Dg} {s : Int} {F : Nat → Prop} {i : Int} {w : World} (h : La w p L s F) : Calls Try.prog 16 #[.pointer (some ⟨p, 0, none⟩), .int .i64 i] w fun e w' => e = .returned (.int .i64 (dE L i)) ∧ ∃ F', La w' p (dL L i) s F' ∧ Gone w w' F F' := by
  have h0 := h
  obtain ⟨v, R, h, e, eF⟩ := h
  have hN := check_any p v R s i w h
  rw [show R.length = L.length by rw [← e]; simp] at hN
  unfold dE dL
  by_cases hi : i < 0 ∨ (L.length : Int) ≤ i
  · rw [if_pos hi, if_pos hi]
    rw [kE, if_pos hi] at hN
    clear h hi
    go_enter Try.func16, Try.ntmps16
    go_wp2_with (go_at_call 33; refine hN.mono ?_; rintro e w' ⟨rfl, rfl⟩)
    go_ret
    exact ⟨rfl, F, h0, Gone.refl _ _⟩
  · rw [if_neg hi, if_neg hi]
    rw [kE, if_neg hi] at hN
    obtain ⟨k, rfl⟩ : ∃ k : Nat, i = k := ⟨i.toNat, by omega⟩
    have hk : k < R.length := by
      have : R.length = L.length := by rw [← e]; simp
      omega
    obtain ⟨g, cap, x, rfl, hc1, hc2, hx, e0, e1, e2, o1, o2⟩ := h.at hk
    have c1 := h.c1
    have hC := add_any (d := x.1) h0 (o1.sl o2.1) o2.2
    have hd : L.getD (Int.toNat k) ⟨0, 0, []⟩ = x.1 := by
      rw [← e]
      simp [hx]
    rw [hd]
    obtain ⟨ao, cp, ev⟩ := o1.shape
    obtain ⟨⟨f, t, b⟩, u⟩ := x
    dsimp only at *
    subst ev
    generalize aE L = E at hC ⊢
    generalize aL L _ = L2 at hC ⊢
    generalize R.length = n at *
    clear h o1 o2 hx e hd hi h0 hc2
    go_enter Try.func16, Try.ntmps16
    go_wp2_with (first | (go_at_call 33; refine hN.mono ?_; rintro e w' ⟨rfl, rfl⟩) | (go_at_call 31; refine hC.mono ?_; rintro e w' ⟨rfl, F', hL', hG⟩))
    go_ret
    exact ⟨rfl, F', hL', hG⟩
theorem cel_erase (R : List (Dg × Value)) (i : Nat) : cel (R.eraseIdx i) = (cel R).take (i * 3) ++ (cel R).drop ((i + 1) * 3) := by
  rw [List.eraseIdx_eq_take_drop_succ, cel_app, cel_take, cel_drop]
/-- Those behind the place i have come one place to the front. -/
def Shd (W : World) (g cap : Nat) (R : List (Dg × Value)) (i : Nat) (w' : World) : Prop :=
  Mod (fun k => k = g) W w' ∧ ∃ cur : Array Value, w'.heap[g]? = some (.cells cur 30 (0, 0)) ∧ cur.size = cap * 3 ∧ cur.toList.take ((R.length - 1) * 3) = cel (R.eraseIdx i)
theorem Gr.shift {W : World} {R : List (Dg × Value)} {g cap i : Nat} (h : Gr W (.slice (some ⟨g, 0, none⟩) R.length cap) R) (hi : i < R.length) (sp : Addr) (hsp : i + 1 < R.length → sp = ⟨g, (i + 1) * 3, none⟩) (ty : TypeId) (dLen dCap sLen sCap : Nat) (hd : dLen = R.length - i) (hs : sLen = R.length - (i + 1)) :
    ∃ w', (Builtin.copy_ #[45, 45] ty #[.slice (some ⟨g, i * 3, none⟩) dLen dCap, .slice (some sp) sLen sCap]).run Try.prog W = .ok (.int .i64 sLen) w' ∧ Shd W g cap R i w' := by
  obtain ⟨ao, cap', e, h1, h2, h3⟩ := h.shape
  simp only [Value.slice.injEq, true_and] at e
  obtain ⟨rfl, rfl⟩ := e
  obtain ⟨g', e, hc⟩ := h3 (by omega)
  simp only [Option.some.injEq, Addr.mk.injEq, and_true] at e
  subst e
  rcases h.row.2 with ⟨e, _⟩ | ⟨g', cap', cur, e, _, hg, hn, _, hcs, ht⟩
  · simp at e
  simp only [Value.slice.injEq, Option.some.injEq, Addr.mk.injEq, and_true, true_and] at e
  obtain ⟨rfl, rfl⟩ := e
  have hl := cel_len R
  have hcl : ((cel R).drop ((i + 1) * 3)).length = sLen * 3 := by simp only [List.length_drop, hl, hs]; omega
  have hmin : Nat.min sLen dLen = sLen := Nat.min_eq_left (by omega)
  have hrun := run_copy3 W ty g (i * 3) dLen dCap sp sLen sCap cur _ ((cel R).drop ((i + 1) * 3)) hg (by rw [hcl, hmin]) (by
    intro j v hv
    rw [List.getElem?_drop] at hv
    have hj : (i + 1) * 3 + j < (cel R).length := (List.getElem?_eq_some_iff.1 hv).1
    rw [hsp (by omega), add_at]
    exact hc _ _ hv) (by rw [hcl, hcs]; omega) (fun v hv => h.ones v (List.mem_of_mem_drop hv))
  rw [hmin] at hrun
  refine ⟨_, hrun, ⟨rfl, rfl, rfl, by simp [World.setRow], fun k hk hne => setRow_other W g k _ hne⟩, _, setRow_heap W g cur _ _ _ hg, ?_, ?_⟩
  · have : cur.toList.length = cap * 3 := by simpa using hcs
    simp only [List.size_toArray, List.length_append, List.length_take, List.length_drop, hcl, this]
    omega
  · rw [cel_erase]
    have e1 : cur.toList.take (i * 3) = (cel R).take (i * 3) := by
      rw [← ht, List.take_take, Nat.min_eq_left (by omega)]
    have e2 : ((cel R).take (i * 3) ++ (cel R).drop ((i + 1) * 3)).length = (R.length - 1) * 3 := by
      simp only [List.length_append, List.length_take, hcl, hl]
      omega
    rw [e1, List.take_append_of_le_length (by omega), List.take_of_length_le (by omega)]
theorem setCells3 {w : World} {g o : Nat} {cur : Array Value} {t : TypeId} {x y z : Value} (h : w.heap[g]? = some (.cells cur t (0, 0))) :
    (w.setCells g o [x, y, z]).heap[g]? = some (.cells (((cur.setIfInBounds o x).setIfInBounds (o + 1) y).setIfInBounds (o + 1 + 1) z) t (0, 0)) ∧ Mod (fun k => k = g) w (w.setCells g o [x, y, z]) := by
  refine ⟨?_, ?_⟩
  · simp [World.setCells, World.setCell, Array.getElem?_modify, h]
  · exact (((Mod.refl (fun k => k = g) w).setCell _ _ (.inl rfl)).setCell _ _ (.inl rfl)).setCell _ _ (.inl rfl)
/-- A datagram stored into the midst of a row, as one step. -/
theorem wpList_store3 {ops : Array Oper} {rest : List Oper} {op : Oper} {a : Act} {w : World} {Q : Exit → Act → World → Prop} (hgd : op.guard = none) (hdt : op.dst = none) (x y : Operand) (ho : op.op = .store 30 x y)
    (b o : Nat) (u1 u2 u3 : Value) (hx : a.eval x = .pointer (some ⟨b, o, none⟩)) (hy : a.eval y = .agg #[u1, u2, u3]) (h1 : u1.oneCell' = true ∧ u2.oneCell' = true ∧ u3.oneCell' = true) (cur : Array Value) (t : TypeId) (hg : w.heap[b]? = some (.cells cur t (0, 0))) (hs : o + 3 ≤ cur.size)
    (h : ∀ w', w'.heap[b]? = some (.cells (((cur.setIfInBounds o u1).setIfInBounds (o + 1) u2).setIfInBounds (o + 1 + 1) u3) t (0, 0)) → Mod (fun k => k = b) w w' → wpList Try.prog ops Q rest a w') : wpList Try.prog ops Q (op :: rest) a w :=
  wpList_store_mid (P := Try.prog) hgd 30 x y ho b o #[u1, u2, u3] hx hy (fun j hj => by
      have : o + j < cur.size := by simp at hj; omega
      exact ⟨by simp [World.cell?, hg, this], by simp [World.frozen?, hg]⟩) (by rw [info3d]; rfl) (by simp [h1.1, h1.2.1, h1.2.2])
    (by
      rw [hdt]
      obtain ⟨h2, h3⟩ := setCells3 (o := o) (x := u1) (y := u2) (z := u3) hg
      exact h _ h2 h3)
theorem Ln.took {w w4 w5 : World} {p g cap n' i : Nat} {R : List (Dg × Value)} {s : Int} {cur : Array Value} (h : Ln w p (.slice (some ⟨g, 0, none⟩) R.length cap) R s) (hi : i < R.length) (hm : Mod (fun k => k = g) w w4) (hg : w4.heap[g]? = some (.cells cur 30 (0, 0))) (hcs : cur.size = cap * 3) (hct : cur.toList.take ((R.length - 1) * 3) = cel (R.eraseIdx i))
    (hn : n' = R.length - 1) (hm5 : Mod (fun k => k = w.heap.size) (w4.setCell ⟨p, 1, none⟩ (.slice (some ⟨g, 0, none⟩) n' cap)) w5) : Ln w5 p (.slice (some ⟨g, 0, none⟩) n' cap) (R.eraseIdx i) s ∧ Mod (fun k => k = p ∨ (Value.slice (some ⟨g, 0, none⟩) R.length cap).ownBlock = some k) w w5 := by
  obtain ⟨ao, cap', e, h1, h2, h3⟩ := h.gr.shape
  simp only [Value.slice.injEq, true_and] at e
  obtain ⟨rfl, rfl⟩ := e
  have hl : (R.eraseIdx i).length = R.length - 1 := List.length_eraseIdx_of_lt hi
  have hmv : Mod (fun k => (Value.slice (some ⟨g, 0, none⟩) R.length cap).ownBlock = some k) w w4 := hm.mono fun k _ e => by rw [e]; rfl
  have hG := h.gr.out (i := i) (v2 := .slice (some ⟨g, 0, none⟩) n' cap) ⟨cel_len _, .inr ⟨g, cap, cur, by rw [hl, hn], Nat.zero_le _, hg, by omega, h2, hcs, by rw [hl]; exact hct⟩⟩ hmv
  have hf : ∀ k, Ft (.slice (some ⟨g, 0, none⟩) n' cap) (R.eraseIdx i) k → Ft (.slice (some ⟨g, 0, none⟩) R.length cap) R k ∨ w.heap.size ≤ k := by
    rintro k (hk | hk)
    · exact .inl (.inl hk)
    · exact .inl (Ft.out hk)
  obtain ⟨S1, S2, S3⟩ := h.store hG (hmv.mono fun k _ hk => .inl hk) hf
  have hsz := hm.size
  have hb := hmv.obj h.blk (fun e => h.far (.inl e))
  have hm4 : Mod (fun k => k = p ∨ (Value.slice (some ⟨g, 0, none⟩) R.length cap).ownBlock = some k) w (w4.setCell ⟨p, 1, none⟩ (.slice (some ⟨g, 0, none⟩) n' cap)) := (hmv.mono fun k _ hk => .inr hk).setCell _ _ (.inl (.inl rfl))
  refine ⟨S1.mod hm5 fun k hk e => ?_, hm4.trans hm5 (fun _ _ h => h) (fun k hk e => by omega)⟩
  subst e
  rcases hk with hk | hk
  · have := h.lt (.inl hk)
    omega
  · rcases hf _ hk with h4 | h4
    · have := h.lt (.inr h4)
      omega
    · rcases hk with hk | hk
      · have := h.lt (.inr (.inl hk))
        omega
      · have := h.lt (.inr (Ft.out hk))
        omega
theorem takeset (cur : Array Value) (o n : Nat) (x y z : Value) (h : n ≤ o) : (((cur.setIfInBounds o x).setIfInBounds (o + 1) y).setIfInBounds (o + 1 + 1) z).toList.take n = cur.toList.take n := by
  simp only [Array.toList_setIfInBounds]
  rw [List.take_set_of_le (by omega), List.take_set_of_le (by omega), List.take_set_of_le (by omega)]
/-- Take. -/
def tE (L : List Dg) (i : Int) : Int := if i < 0 ∨ (L.length : Int) ≤ i then 9 else 0
def tL (L : List Dg) (i : Int) : List Dg := if i < 0 ∨ (L.length : Int) ≤ i then L else L.eraseIdx i.toNat
def tD (L : List Dg) (i : Int) : Dg := if i < 0 ∨ (L.length : Int) ≤ i then ⟨0, 0, []⟩ else L.getD i.toNat ⟨0, 0, []⟩
set_option maxRecDepth 100000 in
set_option maxHeartbeats 1000000 in
theorem Take_bad {p : Nat} {v : Value} {R : List (Dg × Value)} {s : Int} {i : Int} {w : World} (h : Ln w p v R s) (hi : i < 0 ∨ (R.length : Int) ≤ i) : Calls Try.prog 13 #[.pointer (some ⟨p, 0, none⟩), .int .i64 i] w fun e w' => e = .returned (.tuple #[.agg #[.int .i64 0, .int .i64 0, .slice none 0 0], .int .i64 9]) ∧ Mod (fun _ => False) w w' := by
  have hm := (Mod.refl (fun _ => False) w).alloc (.cells #[.int .i64 0, .int .i64 0, .slice none 0 0] 30)
  have hN := check_any p v R s i _ (h.mod hm (fun _ _ h => h))
  rw [kE, if_pos hi] at hN
  clear h hi
  go_enter Try.func13, Try.ntmps13
  go_wp2_with (go_at_call 33; refine hN.mono ?_; rintro e w' ⟨rfl, rfl⟩)
  exact bodyPost_ret (res3 (x := .int .i64 0) (y := .int .i64 0) (z := .slice none 0 0) rfl rfl rfl (heap_alloc_new w _)) rfl ⟨rfl, hm⟩
set_option maxRecDepth 100000 in
set_option maxHeartbeats 1000000 in
theorem Take_ok {p : Nat} {v : Value} {R : List (Dg × Value)} {s : Int} {i : Nat} {w : World} (h : Ln w p v R s) (hi : i < R.length) {x : Dg × Value} (hx : R[i]? = some x) : Calls Try.prog 13 #[.pointer (some ⟨p, 0, none⟩), .int .i64 i] w fun e w' => e = .returned (.tuple #[.agg #[.int .i64 x.1.f, .int .i64 x.1.t, x.2], .int .i64 0]) ∧ ∃ v2, Ln w' p v2 (R.eraseIdx i) s ∧ v2.ownBlock = v.ownBlock ∧ Mod (fun k => k = p ∨ v.ownBlock = some k) w w' := by
  have hm := (Mod.refl (fun _ => False) w).alloc (.cells #[.int .i64 0, .int .i64 0, .slice none 0 0] 30)
  have hA := h.mod hm (fun _ _ h => h)
  have hN := check_any p v R s i _ hA
  rw [kE, if_neg (by omega)] at hN
  obtain ⟨g, cap, x', rfl, hc1, hc2, hx', e0, e1, e2, o1, o2⟩ := hA.at hi
  have exx : x' = x := by
    rw [hx] at hx'
    exact (Option.some.inj hx').symm
  subst exx
  have c1 := hA.c1
  obtain ⟨ao, cp, ev⟩ := o1.shape
  obtain ⟨⟨f, t, b⟩, u⟩ := x'
  dsimp only at *
  subst ev
  clear hA o1
  have hM2 := hm.alloc (.cells #[.int .i64 f, .int .i64 t, .slice ao b.length cp] 30)
  have k1 : ((w.alloc (.cells #[.int .i64 0, .int .i64 0, .slice none 0 0] 30)).alloc (.cells #[.int .i64 f, .int .i64 t, .slice ao b.length cp] 30)).heap[w.heap.size]? = some (.cells #[.int .i64 0, .int .i64 0, .slice none 0 0] 30 (0, 0)) :=
    ((Mod.refl (fun _ => False) (w.alloc (.cells #[.int .i64 0, .int .i64 0, .slice none 0 0] 30))).alloc _).obj (heap_alloc_new w _) (fun h => h)
  have k2 : ((w.alloc (.cells #[.int .i64 0, .int .i64 0, .slice none 0 0] 30)).alloc (.cells #[.int .i64 f, .int .i64 t, .slice ao b.length cp] 30)).heap[w.heap.size + 1]? = some (.cells #[.int .i64 f, .int .i64 t, .slice ao b.length cp] 30 (0, 0)) := by
    have := heap_alloc_new (w.alloc (.cells #[.int .i64 0, .int .i64 0, .slice none 0 0] 30)) (.cells #[.int .i64 f, .int .i64 t, .slice ao b.length cp] 30)
    simpa using this
  have hs2 : ((w.alloc (.cells #[.int .i64 0, .int .i64 0, .slice none 0 0] 30)).alloc (.cells #[.int .i64 f, .int .i64 t, .slice ao b.length cp] 30)).heap.size = w.heap.size + 2 := by simp
  go_enter Try.func13, Try.ntmps13
  go_wp2_with (go_at_call 33; refine hN.mono ?_; rintro e w' ⟨rfl, rfl⟩)
  clear hN c1 e0 e1 e2 hm
  generalize ((w.alloc (.cells #[.int .i64 0, .int .i64 0, .slice none 0 0] 30)).alloc (.cells #[.int .i64 f, .int .i64 t, .slice ao b.length cp] 30)) = W at hM2 k1 k2 hs2 ⊢
  have hB := h.mod hM2 (fun _ _ h => h)
  have q1 : W.cell? ⟨p, 1, none⟩ = some (.slice (some ⟨g, 0, none⟩) R.length cap) := hB.c1
  obtain ⟨m, hmm⟩ : ∃ m, R.length = i + 1 + m := ⟨R.length - (i + 1), by omega⟩
  have HM : Hid (R.length = i + 1 + m) := hmm
  have hS := fun W' (hm : Mod (fun _ => False) W W') => (hB.gr.mod hm (fun _ _ h => h)).shift hi
  have hL3 := fun w3 (hm3 : Mod (fun k => k = g) W.drew w3) => hm3.obj (((Mod.refl (fun _ => False) W).drew).obj hB.blk (fun h => h)) (fun e => hB.far (.inl (by rw [e]; rfl)))
  have hHB : Hid (Ln W p (.slice (some ⟨g, 0, none⟩) R.length cap) R s) := hB
  have hH : Hid (Ln w p (.slice (some ⟨g, 0, none⟩) R.length cap) R s) := h
  clear hB h
  rw [hmm] at q1 hc1
  simp only [hmm] at hL3
  clear hmm hi hx hx' o2
  unfold maxLen at hc2
  have hw : IntKind.i64.wrap ((i : Int) + 1) = ((i + 1 : Nat) : Int) := by rw [IntKind.wrap_i64]; omega
  have hw2 : IntKind.i64.wrap ((i : Int) + m) = ((i + m : Nat) : Int) := by rw [IntKind.wrap_i64]; omega
  have j3 : ¬ cap = i := by omega
  have j4 : 0 ≤ (i : Int) + 1 := by omega
  have j6 : 0 ≤ (i : Int) + m := by omega
  rcases (by omega : (m = 0 ∧ cap = i + 1) ∨ i + 1 < cap) with ⟨rfl, rfl⟩ | hcc
  · have j8 : (i : Int) ≤ (i : Int) + 1 := by omega
    go_region_law (refine step_copy_out (by rfl) _ _ 45 45 (by rfl) _ _ (by rfl) (by rfl) (hS _ ((Mod.refl _ W).drew) ⟨g, 0, none⟩ (by have := HM.out; omega) _ _ _ 0 _ (by have := HM.out; omega) (by have := HM.out; omega)) ?_; rintro w3 hS3)
    all_goals
      obtain ⟨hm3, cur, hg3, hcs, hct⟩ := hS3
      have hb3 := hL3 w3 hm3
      clear hL3 hS
      have c3 : w3.cell? ⟨p, 1, none⟩ = some (.slice (some ⟨g, 0, none⟩) (i + 1 + 0) (i + 1)) := by simp [World.cell?, hb3]
      have hne : ¬ g = p := fun e => hHB.out.far (.inl (by rw [e]; rfl))
      have hlp : p < w.heap.size := hH.out.lt (.inl rfl)
      have hlg : g < w.heap.size := hH.out.lt (.inr (.inl rfl))
      have hd1 : w3.heap[w.heap.size]? = some (.cells #[.int .i64 0, .int .i64 0, .slice none 0 0] 30 (0, 0)) := hm3.obj (((Mod.refl (fun _ => False) W).drew).obj k1 (fun h => h)) (fun (e : w.heap.size = g) => by omega)
      have hd2 : w3.heap[w.heap.size + 1]? = some (.cells #[.int .i64 f, .int .i64 t, .slice ao b.length cp] 30 (0, 0)) := hm3.obj (((Mod.refl (fun _ => False) W).drew).obj k2 (fun h => h)) (fun (e : w.heap.size + 1 = g) => by omega)
      have HF : ∀ w4, Mod (fun k => k = g) w3 w4 → w4.cell? ⟨p, 1, none⟩ = some (.slice (some ⟨g, 0, none⟩) (i + 1 + 0) (i + 1)) ∧ w4.frozen? ⟨p, 1, none⟩ = false ∧ (∀ y, (w4.setCell ⟨p, 1, none⟩ y).cell? ⟨w.heap.size + 1, 0, none⟩ = some (.int .i64 f)) ∧ (∀ y, (w4.setCell ⟨p, 1, none⟩ y).cell? ⟨w.heap.size + 1, 1, none⟩ = some (.int .i64 t)) ∧ (∀ y, (w4.setCell ⟨p, 1, none⟩ y).cell? ⟨w.heap.size + 1, 2, none⟩ = some (.slice ao b.length cp)) ∧ (∀ y, Hid ((w4.setCell ⟨p, 1, none⟩ y).heap[w.heap.size]? = some (.cells #[.int .i64 0, .int .i64 0, .slice none 0 0] 30 (0, 0)))) := fun w4 hm4 => by
        have b4 := hm4.obj hb3 (fun e => hne e.symm)
        have b5 := fun y => ((Mod.refl (fun k => k = p) w4).setCell ⟨p, 1, none⟩ y (.inl rfl)).obj (hm4.obj hd2 (fun (e : w.heap.size + 1 = g) => by omega)) (fun (e : w.heap.size + 1 = p) => by omega)
        have b6 := fun y => ((Mod.refl (fun k => k = p) w4).setCell ⟨p, 1, none⟩ y (.inl rfl)).obj (hm4.obj hd1 (fun (e : w.heap.size = g) => by omega)) (fun (e : w.heap.size = p) => by omega)
        exact ⟨by simp [World.cell?, b4], by simp [World.frozen?, b4], fun y => by simp only [World.cell?, b5 y]; rfl, fun y => by simp only [World.cell?, b5 y]; rfl, fun y => by simp only [World.cell?, b5 y]; rfl, b6⟩
      go_wp2_with (first | (refine wpList_store3 rfl rfl _ _ rfl g ((i) * 3) (.int .i64 0) (.int .i64 0) (.slice none 0 0) rfl rfl ⟨rfl, rfl, rfl⟩ cur _ hg3 (by omega) ?_; intro w4 hg4 hm4; obtain ⟨c4, z4, d0, d1, d2, he⟩ := HF w4 hm4) | (refine wpList_store3 rfl rfl _ _ rfl w.heap.size 0 (.int .i64 f) (.int .i64 t) (.slice ao b.length cp) rfl rfl ⟨rfl, rfl, rfl⟩ _ _ (he _).out (by simp) ?_; intro w5 hg5 hm5))
      have hM4 : Mod (fun k => k = g) w w4 := ((hM2.trans (((Mod.refl (fun _ => False) W).drew)) (V := fun _ => False) (fun _ _ h => h) (fun _ _ h => h)).trans hm3 (V := fun k => k = g) (fun _ _ h => h.elim) (fun _ _ h => h)).trans hm4 (fun _ _ h => h) (fun _ _ h => h)
      have hn := HM.out
      obtain ⟨T1, T2⟩ := hH.out.took (i := i) (n' := i) (by omega) hM4 hg4 (by simpa using hcs) (by rw [takeset _ _ _ _ _ _ (by omega)]; exact hct) (by omega) hm5
      refine bodyPost_ret (res3 rfl rfl rfl hg5) rfl ⟨?_, _, T1, rfl, T2⟩
      simp
  · have i5 : ¬ cap = i + 1 := by omega
    have j7 : (i : Int) + 1 ≤ (i : Int) + 1 + m := by omega
    have j8 : (i : Int) ≤ (i : Int) + 1 + m := by omega
    go_region_law (refine step_copy_out (by rfl) _ _ 45 45 (by rfl) _ _ (by rfl) (by rfl) (hS _ ((Mod.refl _ W).drew) ⟨g, (i + 1) * 3, none⟩ (fun _ => rfl) _ _ _ m _ (by have := HM.out; omega) (by have := HM.out; omega)) ?_; rintro w3 hS3)
    all_goals
      obtain ⟨hm3, cur, hg3, hcs, hct⟩ := hS3
      have hb3 := hL3 w3 hm3
      clear hL3 hS
      have c3 : w3.cell? ⟨p, 1, none⟩ = some (.slice (some ⟨g, 0, none⟩) (i + 1 + m) cap) := by simp [World.cell?, hb3]
      have hne : ¬ g = p := fun e => hHB.out.far (.inl (by rw [e]; rfl))
      have hlp : p < w.heap.size := hH.out.lt (.inl rfl)
      have hlg : g < w.heap.size := hH.out.lt (.inr (.inl rfl))
      have hd1 : w3.heap[w.heap.size]? = some (.cells #[.int .i64 0, .int .i64 0, .slice none 0 0] 30 (0, 0)) := hm3.obj (((Mod.refl (fun _ => False) W).drew).obj k1 (fun h => h)) (fun (e : w.heap.size = g) => by omega)
      have hd2 : w3.heap[w.heap.size + 1]? = some (.cells #[.int .i64 f, .int .i64 t, .slice ao b.length cp] 30 (0, 0)) := hm3.obj (((Mod.refl (fun _ => False) W).drew).obj k2 (fun h => h)) (fun (e : w.heap.size + 1 = g) => by omega)
      have HF : ∀ w4, Mod (fun k => k = g) w3 w4 → w4.cell? ⟨p, 1, none⟩ = some (.slice (some ⟨g, 0, none⟩) (i + 1 + m) (cap)) ∧ w4.frozen? ⟨p, 1, none⟩ = false ∧ (∀ y, (w4.setCell ⟨p, 1, none⟩ y).cell? ⟨w.heap.size + 1, 0, none⟩ = some (.int .i64 f)) ∧ (∀ y, (w4.setCell ⟨p, 1, none⟩ y).cell? ⟨w.heap.size + 1, 1, none⟩ = some (.int .i64 t)) ∧ (∀ y, (w4.setCell ⟨p, 1, none⟩ y).cell? ⟨w.heap.size + 1, 2, none⟩ = some (.slice ao b.length cp)) ∧ (∀ y, Hid ((w4.setCell ⟨p, 1, none⟩ y).heap[w.heap.size]? = some (.cells #[.int .i64 0, .int .i64 0, .slice none 0 0] 30 (0, 0)))) := fun w4 hm4 => by
        have b4 := hm4.obj hb3 (fun e => hne e.symm)
        have b5 := fun y => ((Mod.refl (fun k => k = p) w4).setCell ⟨p, 1, none⟩ y (.inl rfl)).obj (hm4.obj hd2 (fun (e : w.heap.size + 1 = g) => by omega)) (fun (e : w.heap.size + 1 = p) => by omega)
        have b6 := fun y => ((Mod.refl (fun k => k = p) w4).setCell ⟨p, 1, none⟩ y (.inl rfl)).obj (hm4.obj hd1 (fun (e : w.heap.size = g) => by omega)) (fun (e : w.heap.size = p) => by omega)
        exact ⟨by simp [World.cell?, b4], by simp [World.frozen?, b4], fun y => by simp only [World.cell?, b5 y]; rfl, fun y => by simp only [World.cell?, b5 y]; rfl, fun y => by simp only [World.cell?, b5 y]; rfl, b6⟩
      go_wp2_with (first | (refine wpList_store3 rfl rfl _ _ rfl g ((i + m) * 3) (.int .i64 0) (.int .i64 0) (.slice none 0 0) rfl rfl ⟨rfl, rfl, rfl⟩ cur _ hg3 (by omega) ?_; intro w4 hg4 hm4; obtain ⟨c4, z4, d0, d1, d2, he⟩ := HF w4 hm4) | (refine wpList_store3 rfl rfl _ _ rfl w.heap.size 0 (.int .i64 f) (.int .i64 t) (.slice ao b.length cp) rfl rfl ⟨rfl, rfl, rfl⟩ _ _ (he _).out (by simp) ?_; intro w5 hg5 hm5))
      have hM4 : Mod (fun k => k = g) w w4 := ((hM2.trans (((Mod.refl (fun _ => False) W).drew)) (V := fun _ => False) (fun _ _ h => h) (fun _ _ h => h)).trans hm3 (V := fun k => k = g) (fun _ _ h => h.elim) (fun _ _ h => h)).trans hm4 (fun _ _ h => h) (fun _ _ h => h)
      have hn := HM.out
      obtain ⟨T1, T2⟩ := hH.out.took (i := i) (n' := i + m) (by omega) hM4 hg4 (by simpa using hcs) (by rw [takeset _ _ _ _ _ _ (by omega)]; exact hct) (by omega) hm5
      refine bodyPost_ret (res3 rfl rfl rfl hg5) rfl ⟨?_, _, T1, rfl, T2⟩
      simp
end Go.Proofs.Ythmglemjlinlgaa
