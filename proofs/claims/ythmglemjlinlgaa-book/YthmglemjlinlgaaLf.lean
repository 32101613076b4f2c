/- The document's lane: what Take answers, and what it leaves. No conditions. -/
import Derived.Test.YthmglemjlinlgaaLe
namespace Go.Proofs.Ythmglemjlinlgaa
open Go.RowKit
theorem Dn.took {w w4 w5 : World} {p i : Nat} {v v2 : Value} {R : List (Dg × Value)} {a : List Bool} (h : Dn w p v R a) (hm : Mod (fun _ => False) w w4) (ho : w4.ownsRow 0 30 3 v2 (R.eraseIdx i).length (cel (R.eraseIdx i))) (hn : ∀ g, v2.ownBlock = some g → w.heap.size + 1 ≤ g)
    (hm5 : Mod (fun k => k = w.heap.size) (w4.setCell ⟨p, 0, none⟩ v2) w5) : Dn w5 p v2 (R.eraseIdx i) a ∧ Mod (fun k => k = p) w w5 ∧ (∀ k, Fl p v2 (R.eraseIdx i) k → Fl p v R k ∨ w.heap.size ≤ k) := by
  have hG := h.gr.out (i := i) ho hm.none
  have hf : ∀ k, Ft v2 (R.eraseIdx i) k → Ft v R k ∨ w.heap.size + 1 ≤ k := by
    rintro k (hk | hk)
    · exact .inr (hn k hk)
    · exact .inl (Ft.out hk)
  obtain ⟨S1, S2, S3⟩ := h.store hG hm.none (fun k hk => by
    rcases hf k hk with h1 | h1
    · exact .inl h1
    · exact .inr (by omega))
  have hm4 : Mod (fun k => k = p) w (w4.setCell ⟨p, 0, none⟩ v2) := hm.none.setCell _ _ (.inl rfl)
  refine ⟨S1.mod hm5 fun k hk e => ?_, hm4.trans hm5 (fun _ _ h => h) (fun k hk e => by omega), S3⟩
  subst e
  rcases hk with hk | hk
  · have := h.lt (.inl hk)
    omega
  · rcases hf _ hk with h4 | h4
    · have := h.lt (.inr h4)
      omega
    · omega
theorem owns_shape {w : World} {B n z : Nat} {e : TypeId} {v : Value} {xs : List Value} (h : w.ownsRow B e z v n xs) : ∃ ao k cap, v = .slice ao k cap := by
  rcases h.2 with ⟨rfl, _⟩ | ⟨g, cap, cur, rfl, _⟩
  · exact ⟨_, _, _, rfl⟩
  · exact ⟨_, _, _, rfl⟩
set_option maxRecDepth 100000 in
set_option maxHeartbeats 1000000 in
theorem dTake_bad {p : Nat} {v : Value} {R : List (Dg × Value)} {a : List Bool} {i : Int} {w : World} (h : Dn w p v R a) (hi : i < 0 ∨ (R.length : Int) ≤ i) : Calls Try.prog 14 #[.pointer (some ⟨p, 0, none⟩), .int .i64 i] w fun e w' => e = .returned (.tuple #[.agg #[.int .i64 0, .int .i64 0, .slice none 0 0], .int .i64 9]) ∧ Mod (fun _ => False) w w' := by
  have hm := (Mod.refl (fun _ => False) w).alloc (.cells #[.int .i64 0, .int .i64 0, .slice none 0 0] 30)
  have hN := has_any (i := i) (h.mod hm (fun _ _ h => h))
  rw [decide_eq_false (fun hn => hn hi)] at hN
  clear h hi
  go_enter Try.func14, Try.ntmps14
  go_wp2_with (go_at_call 34; refine hN.mono ?_; rintro e w' ⟨rfl, rfl⟩)
  exact bodyPost_ret (res3 (x := .int .i64 0) (y := .int .i64 0) (z := .slice none 0 0) rfl rfl rfl (heap_alloc_new w _)) rfl ⟨rfl, hm⟩
set_option maxRecDepth 100000 in
set_option maxHeartbeats 1000000 in
theorem dTake_ok {p : Nat} {v : Value} {R : List (Dg × Value)} {a : List Bool} {i : Nat} {w : World} (h : Dn w p v R a) (hi : i < R.length) {x : Dg × Value} (hx : R[i]? = some x) (hlm : R.length ≤ 4096) : Calls Try.prog 14 #[.pointer (some ⟨p, 0, none⟩), .int .i64 i] w fun e w' => e = .returned (.tuple #[.agg #[.int .i64 x.1.f, .int .i64 x.1.t, x.2], .int .i64 0]) ∧ ∃ v2, Dn w' p v2 (R.eraseIdx i) a ∧ Mod (fun k => k = p) w w' ∧ (∀ g, v2.ownBlock = some g → w.heap.size ≤ g) := by
  obtain ⟨i0, hii, hz0, hz1, hz2⟩ := info_parts infoDg
  have hm := (Mod.refl (fun _ => False) w).alloc (.cells #[.int .i64 0, .int .i64 0, .slice none 0 0] 30)
  have hA := h.mod hm (fun _ _ h => h)
  have hN := has_any (i := i) hA
  rw [decide_eq_true (by omega)] at hN
  obtain ⟨g, cap, x', rfl, hc1, hc2, hx', e0, e1, e2, o1, o2⟩ := hA.at hi
  obtain rfl : x' = x := by
    rw [hx] at hx'
    exact (Option.some.inj hx').symm
  have c0 := hA.c0
  obtain ⟨ao, cp, ev⟩ := o1.shape
  obtain ⟨⟨f, t, b⟩, u⟩ := x'
  dsimp only at *
  subst ev
  clear hA o1
  have hM2 := hm.alloc (.cells #[.int .i64 f, .int .i64 t, .slice ao b.length cp] 30)
  have k1 : ((w.alloc (.cells #[.int .i64 0, .int .i64 0, .slice none 0 0] 30)).alloc (.cells #[.int .i64 f, .int .i64 t, .slice ao b.length cp] 30)).heap[w.heap.size]? = some (.cells #[.int .i64 0, .int .i64 0, .slice none 0 0] 30 (0, 0)) :=
    ((Mod.refl (fun _ => False) (w.alloc (.cells #[.int .i64 0, .int .i64 0, .slice none 0 0] 30))).alloc _).obj (heap_alloc_new w _) (fun h => h)
  have k2 : ((w.alloc (.cells #[.int .i64 0, .int .i64 0, .slice none 0 0] 30)).alloc (.cells #[.int .i64 f, .int .i64 t, .slice ao b.length cp] 30)).heap[w.heap.size + 1]? = some (.cells #[.int .i64 f, .int .i64 t, .slice ao b.length cp] 30 (0, 0)) := by
    have := heap_alloc_new (w.alloc (.cells #[.int .i64 0, .int .i64 0, .slice none 0 0] 30)) (.cells #[.int .i64 f, .int .i64 t, .slice ao b.length cp] 30)
    simpa using this
  have hs2 : ((w.alloc (.cells #[.int .i64 0, .int .i64 0, .slice none 0 0] 30)).alloc (.cells #[.int .i64 f, .int .i64 t, .slice ao b.length cp] 30)).heap.size = w.heap.size + 2 := by simp
  have q1 := (h.mod hM2 (fun _ _ h => h)).c0
  obtain ⟨m, hmm⟩ : ∃ m, R.length = i + 1 + m := ⟨R.length - (i + 1), by omega⟩
  have HM : Hid (R.length = i + 1 + m) := hmm
  have hcl := cel_len R
  have hcel : ∀ W, Mod (fun _ => False) w W → ∀ j u, (cel R)[j]? = some u → W.cell? ⟨g, j, none⟩ = some u := fun W hW => by
    obtain ⟨ao', cap', e, _, _, h3⟩ := (h.mod hW (fun _ _ h => h)).gr.shape
    simp only [Value.slice.injEq] at e
    obtain ⟨rfl, _, rfl⟩ := e
    obtain ⟨g', e, hc⟩ := h3 (by omega)
    simp only [Option.some.injEq, Addr.mk.injEq, and_true] at e
    subst e
    exact hc
  have hone := h.gr.ones
  have hH : Hid (Dn w p (.slice (some ⟨g, 0, none⟩) R.length cap) R a) := h
  have HS : Hid (R.length ≤ 4096) := hlm
  clear h hlm
  rw [hmm] at c0 hc1 q1
  clear hi hx hx' o2 hmm
  unfold maxLen at hc2
  have hw : IntKind.i64.wrap ((i : Int) + 1) = ((i + 1 : Nat) : Int) := by rw [IntKind.wrap_i64]; omega
  have hl1 : ((cel R).take (i * 3)).length = i * 3 := by rw [List.length_take]; have := HM.out; omega
  have hl2 : ((cel R).drop ((i + 1) * 3)).length = m * 3 := by rw [List.length_drop]; have := HM.out; omega
  have j3 : ¬ cap = i := by omega
  have j4 : 0 ≤ (i : Int) + 1 := by omega
  have j5 : (i : Int) ≤ cap := by omega
  have j7 : (i : Int) + 1 ≤ (i : Int) + 1 + m := by omega
  have j8 : (i : Int) < (i : Int) + 1 + m := by omega
  have hone1 : ∀ u ∈ (cel R).take (i * 3), u.oneCell' = true := fun u hu => hone u (List.mem_of_mem_take hu)
  have hone2 : ∀ u ∈ (cel R).drop ((i + 1) * 3), u.oneCell' = true := fun u hu => hone u (List.mem_of_mem_drop hu)
  have hnw1 : ∀ W, Mod (fun _ => False) w W → ∀ j u, ((cel R).take (i * 3))[j]? = some u → W.cell? ((⟨g, 0, none⟩ : Addr).add j) = some u := fun W hW j u hu => by
    rw [List.getElem?_take] at hu
    split at hu
    · rw [add_at, Nat.zero_add]; exact hcel W hW j u hu
    · cases hu
  have hnw2 : ∀ W, Mod (fun _ => False) w W → ∀ j u, ((cel R).drop ((i + 1) * 3))[j]? = some u → W.cell? ((⟨g, (i + 1) * 3, none⟩ : Addr).add j) = some u := fun W hW j u hu => by
    rw [List.getElem?_drop] at hu
    rw [add_at]
    exact hcel W hW _ u hu
  have hlp : p < w.heap.size := hH.out.lt (.inl rfl)
  have HF1 : ∀ (v2 : Value) (w2 : World), ((w.alloc (.cells #[.int .i64 0, .int .i64 0, .slice none 0 0] 30)).alloc (.cells #[.int .i64 f, .int .i64 t, .slice ao b.length cp] 30)).grownBy w2 (Value.slice none 0 0).ownBlock → (v2.ownBlock = (Value.slice none 0 0).ownBlock ∨ v2.ownBlock = some ((w.alloc (.cells #[.int .i64 0, .int .i64 0, .slice none 0 0] 30)).alloc (.cells #[.int .i64 f, .int .i64 t, .slice ao b.length cp] 30)).heap.size) → Mod (fun _ => False) ((w.alloc (.cells #[.int .i64 0, .int .i64 0, .slice none 0 0] 30)).alloc (.cells #[.int .i64 f, .int .i64 t, .slice ao b.length cp] 30)) w2 ∧ Mod (fun _ => False) w w2 ∧ (∀ k, v2.ownBlock = some k → w.heap.size + 2 ≤ k) ∧ w2.cell? ⟨p, 0, none⟩ = some (.slice (some ⟨g, 0, none⟩) (i + 1 + m) cap) := fun v2 w2 hg hat => by
    have hMW : Mod (fun _ => False) ((w.alloc (.cells #[.int .i64 0, .int .i64 0, .slice none 0 0] 30)).alloc (.cells #[.int .i64 f, .int .i64 t, .slice ao b.length cp] 30)) w2 := (Mod.refl _ _).grown hg (fun k hk => by simp [Value.ownBlock] at hk)
    have hM3 := hM2.and hMW
    refine ⟨hMW, hM3, fun k hk => ?_, ?_⟩
    · rcases hat with h1 | h1
      · rw [h1] at hk; simp [Value.ownBlock] at hk
      · rw [h1, hs2] at hk; simp at hk; omega
    · have := (hH.out.mod hM3 (fun _ _ h => h)).c0
      rwa [HM.out] at this
  have HF2 : ∀ (v2 : Value) (w2 : World), Mod (fun _ => False) ((w.alloc (.cells #[.int .i64 0, .int .i64 0, .slice none 0 0] 30)).alloc (.cells #[.int .i64 f, .int .i64 t, .slice ao b.length cp] 30)) w2 → Mod (fun _ => False) w w2 → (∀ k, v2.ownBlock = some k → w.heap.size + 2 ≤ k) → ∀ (v3 : Value) (w3 : World), w2.grownBy w3 v2.ownBlock → (v3.ownBlock = v2.ownBlock ∨ v3.ownBlock = some w2.heap.size) →
      Mod (fun _ => False) w w3 ∧ (∀ k, v3.ownBlock = some k → w.heap.size + 1 ≤ k) ∧ w3.cell? ⟨p, 0, none⟩ = some (.slice (some ⟨g, 0, none⟩) (i + 1 + m) cap) ∧ w3.frozen? ⟨p, 0, none⟩ = false ∧ (∀ y, (w3.setCell ⟨p, 0, none⟩ y).cell? ⟨w.heap.size + 1, 0, none⟩ = some (.int .i64 f)) ∧ (∀ y, (w3.setCell ⟨p, 0, none⟩ y).cell? ⟨w.heap.size + 1, 1, none⟩ = some (.int .i64 t)) ∧ (∀ y, (w3.setCell ⟨p, 0, none⟩ y).cell? ⟨w.heap.size + 1, 2, none⟩ = some (.slice ao b.length cp)) ∧ (∀ y, Hid ((w3.setCell ⟨p, 0, none⟩ y).heap[w.heap.size]? = some (.cells #[.int .i64 0, .int .i64 0, .slice none 0 0] 30 (0, 0)))) := fun v2 w2 hMW hM3 hv2 v3 w3 hg hat => by
    have hs3 := hMW.size
    have hm3 : Mod (fun k => v2.ownBlock = some k) w2 w3 := (Mod.refl _ _).grown hg (fun k hk _ => hk)
    have hM4 : Mod (fun _ => False) w w3 := hM3.trans hm3 (fun _ _ h => h) (fun k hk e => by have := hv2 k e; omega)
    have b5 := fun y => ((Mod.refl (fun k => k = p) w3).setCell ⟨p, 0, none⟩ y (.inl rfl)).obj (hm3.obj (hMW.obj k2 (fun h => h)) (fun e => by have := hv2 _ e; omega)) (fun (e : w.heap.size + 1 = p) => by omega)
    have b6 := fun y => ((Mod.refl (fun k => k = p) w3).setCell ⟨p, 0, none⟩ y (.inl rfl)).obj (hm3.obj (hMW.obj k1 (fun h => h)) (fun e => by have := hv2 _ e; omega)) (fun (e : w.heap.size = p) => by omega)
    have hD := hH.out.mod hM4 (fun _ _ h => h)
    refine ⟨hM4, fun k hk => ?_, ?_, hD.f 0, fun y => by simp only [World.cell?, b5 y]; rfl, fun y => by simp only [World.cell?, b5 y]; rfl, fun y => by simp only [World.cell?, b5 y]; rfl, b6⟩
    · rcases hat with h1 | h1
      · rw [h1] at hk; have := hv2 k hk; omega
      · rw [h1] at hk; simp at hk; omega
    · have := hD.c0
      rwa [HM.out] at this
  have hi4 : i + 1 + m ≤ 4096 := by have := HM.out; have := HS.out; omega
  rcases (by omega : (m = 0 ∧ cap = i + 1) ∨ i + 1 < cap) with ⟨rfl, rfl⟩ | hcc
  · have j9 : (i : Int) ≤ (i : Int) + 1 := by omega
    have j10 : i ≤ i + 1 := by omega
    go_enter Try.func14, Try.ntmps14
    go_wp2_with (first | (go_at_call 34; refine hN.mono ?_; rintro e w' ⟨rfl, rfl⟩) | (at_builtin; refine wpList_append_own_at _ rfl _ _ 45 rfl 0 30 i0 _ 3 40 Try.underlying45 hii hz0 hz1 hz2 rfl (by decide) (.slice none 0 0) 0 [] rfl (World.ownsRow_nil _ _ _ _) ⟨g, 0, none⟩ i _ ((cel R).take (i * 3)) rfl hl1 (hnw1 _ hM2) hone1 (by simp only [maxLen]; omega) (by omega) (Nat.zero_le _) ?_; intro v2 w2 hown2 hgrow2 hnil2 hat2; obtain ⟨hMW, hM3, hv2, q2⟩ := HF1 v2 w2 hgrow2 hat2) | (at_builtin; refine wpList_append_own_at _ rfl _ _ 45 rfl 0 30 i0 _ 3 40 Try.underlying45 hii hz0 hz1 hz2 rfl (by decide) v2 (0 + i) ([] ++ (cel R).take (i * 3)) rfl hown2 ⟨g, 0, none⟩ 0 _ ((cel R).drop ((i + 1) * 3)) rfl hl2 (by intro j u hu; rw [List.getElem?_eq_none (by omega)] at hu; cases hu) hone2 (by simp only [maxLen]; omega) (by omega) (Nat.zero_le _) ?_; intro v3 w3 hown3 hgrow3 hnil3 hat3; obtain ⟨ao3, n3, cp3, e3⟩ := owns_shape hown3; subst e3; obtain ⟨hM4, hv3, q3, z3, d0, d1, d2, he⟩ := HF2 v2 w2 hMW hM3 hv2 _ w3 hgrow3 hat3) | (refine wpList_store3 rfl rfl _ _ rfl w.heap.size 0 (.int .i64 f) (.int .i64 t) (.slice ao b.length cp) rfl rfl ⟨rfl, rfl, rfl⟩ _ _ (he _).out (by simp) ?_; intro w5 hg5 hm5))
    have he4 : (R.eraseIdx i).length = 0 + i + 0 := by
      rw [List.length_eraseIdx_of_lt (by have := HM.out; omega)]
      have := HM.out
      omega
    obtain ⟨T1, T2, T3⟩ := hH.out.took (i := i) hM4 (by rw [he4, cel_erase]; simpa using hown3) hv3 hm5
    refine bodyPost_ret (res3 rfl rfl rfl hg5) rfl ⟨?_, _, T1, T2, fun g hg => by have := hv3 g hg; omega⟩
    simp
  · have i5 : ¬ cap = i + 1 := by omega
    go_enter Try.func14, Try.ntmps14
    go_wp2_with (first | (go_at_call 34; refine hN.mono ?_; rintro e w' ⟨rfl, rfl⟩) | (at_builtin; refine wpList_append_own_at _ rfl _ _ 45 rfl 0 30 i0 _ 3 40 Try.underlying45 hii hz0 hz1 hz2 rfl (by decide) (.slice none 0 0) 0 [] rfl (World.ownsRow_nil _ _ _ _) ⟨g, 0, none⟩ i _ ((cel R).take (i * 3)) rfl hl1 (hnw1 _ hM2) hone1 (by simp only [maxLen]; omega) (by omega) (Nat.zero_le _) ?_; intro v2 w2 hown2 hgrow2 hnil2 hat2; obtain ⟨hMW, hM3, hv2, q2⟩ := HF1 v2 w2 hgrow2 hat2) | (at_builtin; refine wpList_append_own_at _ rfl _ _ 45 rfl 0 30 i0 _ 3 40 Try.underlying45 hii hz0 hz1 hz2 rfl (by decide) v2 (0 + i) ([] ++ (cel R).take (i * 3)) rfl hown2 ⟨g, (i + 1) * 3, none⟩ m _ ((cel R).drop ((i + 1) * 3)) rfl hl2 (hnw2 _ hM3) hone2 (by simp only [maxLen]; omega) (by omega) (Nat.zero_le _) ?_; intro v3 w3 hown3 hgrow3 hnil3 hat3; obtain ⟨ao3, n3, cp3, e3⟩ := owns_shape hown3; subst e3; obtain ⟨hM4, hv3, q3, z3, d0, d1, d2, he⟩ := HF2 v2 w2 hMW hM3 hv2 _ w3 hgrow3 hat3) | (refine wpList_store3 rfl rfl _ _ rfl w.heap.size 0 (.int .i64 f) (.int .i64 t) (.slice ao b.length cp) rfl rfl ⟨rfl, rfl, rfl⟩ _ _ (he _).out (by simp) ?_; intro w5 hg5 hm5))
    have he4 : (R.eraseIdx i).length = 0 + i + m := by
      rw [List.length_eraseIdx_of_lt (by have := HM.out; omega)]
      have := HM.out
      omega
    obtain ⟨T1, T2, T3⟩ := hH.out.took (i := i) hM4 (by rw [he4, cel_erase]; simpa using hown3) hv3 hm5
    refine bodyPost_ret (res3 rfl rfl rfl hg5) rfl ⟨?_, _, T1, T2, fun g hg => by have := hv3 g hg; omega⟩
    simp
end Go.Proofs.Ythmglemjlinlgaa
