/- How a slice of ints as an argument reads. No conditions. -/
import Derived.Test.YtifogbhlphofjaaXf
import Derived.Test.YtifogbhlphofjaaXd
namespace Go.Proofs.Ytifogbhlphofjaa
open Go.ChangeShapes Go.WideShapes Go.ChangeAt Go.RowKit
/-- A payload of a sender. -/
structure St where
  o : Int
  lf : Int
  g : Int
  s : Bool
  l : List Int
def scl (m : St) (v : Value) : List Value := [.int .i64 m.o, .int .i64 m.lf, .int .i64 m.g, .bool m.s, v]
/-- A slice of such. -/
structure Sts (w : World) (val : Value) (ds : List (St × Value)) : Prop where
  form : ∃ ao cap, val = .slice ao ds.length cap ∧ ds.length ≤ 140737488355327 ∧ (ds ≠ [] → ∃ b off, ao = some ⟨b, off, none⟩ ∧ ∀ i d, ds[i]? = some d → w.rangeAt b (off + i * 5) (scl d.1 d.2))
  each : ∀ d ∈ ds, Sl w d.2 d.1.l ∧ d.1.l.length ≤ 140737488355328 ∧ I64 d.1.o ∧ I64 d.1.lf ∧ I64 d.1.g
section
variable {H : Type} {enc : TypeId × Value → H} {W : World}
theorem cellsSe : Try.prog.cellsOf 55 = 5 := by kernel_rfl
theorem bytesSe : Try.prog.bytesOf 55 = 56 := by kernel_rfl
set_option maxRecDepth 100000 in
theorem open_sents {v : Value} {d : DataW H} {p : List MemPlace} (h : DataW.Trod enc Try.prog W 0 (fun _ => true) true 48 v d p) (hv : ∃ ao len cap, v = .slice ao len cap) (hsz : ∀ n ∈ d.weights Try.prog 48, n ≤ reachBytes) :
    ∃ ds : List (St × Value), Sts W v ds := by
  obtain ⟨ao0, len0, cap0, rfl⟩ := hv
  obtain ⟨fuel, hf⟩ := h
  rcases Deep.open_slice Try.underlying48 hf with ⟨hcs, hx⟩ | ⟨a, len, cap, m, n, D, Pl, hcs, _, hl, hm, hmm, hx, hel⟩
  · simp [Value.cells] at hcs
    obtain ⟨rfl, rfl, rfl⟩ := hcs
    exact ⟨[], ⟨⟨none, 0, rfl, by simp, fun h => absurd rfl h⟩, by simp⟩⟩
  · simp [Value.cells] at hcs
    obtain ⟨rfl, rfl, rfl⟩ := hcs
    simp only [if_true] at hmm
    subst hmm
    rw [cellsSe] at hel
    simp only [Prod.mk.injEq] at hx
    obtain ⟨rfl, rfl⟩ := hx
    have h2 := reachBytes_lt
    have hlen0 : len0 ≤ 140737488355327 := by
      have := hsz ((((List.range len0).map D).length + ((List.range (m - len0)).map fun i => D (len0 + i)).length) * Try.prog.bytesOf 55) (by
        rw [DataW.weights, Try.underlying48]
        exact List.mem_cons_self ..)
      rw [bytesSe] at this
      simp at this
      omega
    have one : ∀ i, ∃ x : St × Value, i < len0 → (∀ j c, (scl x.1 x.2)[j]? = some c → W.cell? (a.add (i * 5 + j)) = some c) ∧ (Sl W x.2 x.1.l ∧ x.1.l.length ≤ 140737488355328 ∧ I64 x.1.o ∧ I64 x.1.lf ∧ I64 x.1.g) := by
      intro i
      by_cases hi : i < len0
      · obtain ⟨cs, hcells, ht⟩ := hel i (by omega)
        obtain ⟨_, hlen, hc⟩ := World.cells?_some hcells
        match cs, hlen with
        | [c0, c1, c2, c3, c4], _ =>
          obtain ⟨xs, m', _, hxx, hl', hlen', hf'⟩ := DataW.trod_struct Try.underlying55 ht
          match xs, hlen' with
          | [y0, y1, y2, y3, y4], _ =>
          have t0 := hf' 0 _ rfl
          have t1 := hf' 1 _ rfl
          have t2 := hf' 2 _ rfl
          have t3 := hf' 3 _ rfl
          have t4 := hf' 4 _ rfl
          simp [cells3, cells4, cellsB] at t0 t1 t2 t3 t4
          obtain ⟨k0, e0, _, w0⟩ := DataW.trod_int Try.underlying3 t0
          obtain ⟨k1, e1, _, w1⟩ := DataW.trod_int Try.underlying3 t1
          obtain ⟨k2, e2, _, w2⟩ := DataW.trod_int Try.underlying3 t2
          obtain ⟨b3, e3, _⟩ := DataW.trod_bool Try.underlying4 t3
          obtain ⟨l, hs, hb⟩ := sl_of_trod t4
          simp at e0 e1 e2 e3
          subst e0 e1 e2 e3
          refine ⟨(⟨k0, k1, k2, b3, l⟩, c4), fun _ => ⟨fun j c hj => ?_, hs, ?_, i64_of_wf w0, i64_of_wf w1, i64_of_wf w2⟩⟩
          · have hj5 : j < 5 := by
              rcases Nat.lt_or_ge j 5 with h | h
              · exact h
              · rw [List.getElem?_eq_none (by exact h)] at hj; cases hj
            have q := hc j hj5
            rw [Deep.add_add] at q
            rw [q]
            exact hj
          · rcases hb with ⟨_, rfl⟩ | ⟨e, s', hb1, he⟩
            · simp
            · have hn : (e.length + s'.length) * Try.prog.bytesOf 5 ∈ (D i).weights Try.prog 55 := by
                have hd2 : D i = .agg [y0.1, y1.1, y2.1, y3.1, y4.1] := congrArg Prod.fst hxx
                rw [hd2, weights_agg Try.prog Try.underlying55]
                exact DataW.weights_mem_each (t := 26) (j := 4) rfl (show [y0.1, y1.1, y2.1, y3.1, y4.1][4]? = some (.slice e s') by rw [← hb1]; rfl) ((e.length + s'.length) * Try.prog.bytesOf 5) (by simp [DataW.weights, Try.underlying26])
              have := hsz _ (by
                rw [DataW.weights, Try.underlying48]
                exact List.mem_cons_of_mem _ (List.mem_append_left _ (weights_all (List.mem_map_of_mem (List.mem_range.2 hi)) hn)))
              rw [bytes5] at this
              show l.length ≤ 140737488355328
              omega
      · exact ⟨(⟨0, 0, 0, false, []⟩, .slice none 0 0), fun h => absurd h hi⟩
    obtain ⟨f, hfx⟩ := Classical.axiomOfChoice one
    have hdl : ((List.range len0).map f).length = len0 := by simp
    refine ⟨(List.range len0).map f, ⟨⟨some a, m, by rw [hdl], by rw [hdl]; exact hlen0, fun hne => ?_⟩, ?_⟩⟩
    · have h0 : 0 < len0 := by
        rcases Nat.eq_zero_or_pos len0 with h | h
        · subst h; simp at hne
        · exact h
      obtain ⟨b, off, spot⟩ := a
      have hc0 := (hfx 0 h0).1 0 _ rfl
      have hspot : spot = none := by simpa [Addr.add] using World.cell?_spot hc0
      subst hspot
      refine ⟨b, off, rfl, fun i d hd j c hj => ?_⟩
      have hi : i < len0 := by
        rcases Nat.lt_or_ge i len0 with h | h
        · exact h
        · rw [List.getElem?_eq_none (by rw [hdl]; exact h)] at hd; cases hd
      have ed : d = f i := by simpa [hi] using hd.symm
      subst ed
      have := (hfx i hi).1 j c hj
      simpa only [Addr.add_mid, Nat.add_assoc] using this
    · intro d hd
      obtain ⟨i, hi, rfl⟩ := List.mem_map.1 hd
      exact (hfx i (List.mem_range.1 hi)).2
end
set_option maxRecDepth 100000 in
theorem Put_none (v : Value) (k o lf i p ps g : Int) (s : Bool) (st rs rr sq : Int) (b : Value) (w : World) (HN : ∀ W, Mod (fun _ => False) w W → Calls Try.prog 30 #[v] W fun e w' => e = .returned (.bool true) ∧ w' = W) :
    Calls Try.prog 18 #[v, .agg #[.int .i64 k, .int .i64 o, .int .i64 lf, .int .i64 i, .int .i64 p, .int .i64 ps, .int .i64 g, .bool s, .int .i64 st, .int .i64 rs, .int .i64 rr, .int .i64 sq, b]] w fun e w' => e = .returned (.tuple #[.slice none 0 0, .bool false, .int .i64 1]) ∧ Mod (fun _ => False) w w' := by
  have hA := (Mod.refl (fun _ => False) w).alloc (.cells #[.int .i64 k, .int .i64 o, .int .i64 lf, .int .i64 i, .int .i64 p, .int .i64 ps, .int .i64 g, .bool s, .int .i64 st, .int .i64 rs, .int .i64 rr, .int .i64 sq, b] 28)
  have H := HN _ hA
  clear HN
  go_enter Try.func18, Try.ntmps18
  go_wp2_with (go_at_call 30; refine H.mono ?_; rintro e w' ⟨rfl, rfl⟩)
  go_ret3
  exact ⟨rfl, hA⟩
theorem Wait_none (v : Value) (w : World) (H : Calls Try.prog 30 #[v] w fun e w' => e = .returned (.bool true) ∧ w' = w) :
    Calls Try.prog 20 #[v] w fun e w' => e = .returned (.int .i64 0) ∧ w' = w := by
  go_enter Try.func20, Try.ntmps20
  go_wp2_with (go_at_call 30; refine H.mono ?_; rintro e w' ⟨rfl, rfl⟩)
  go_ret
  exact ⟨rfl, rfl⟩
end Go.Proofs.Ytifogbhlphofjaa
namespace Go.Proofs.Ytifogbhlphofjaa
open Go.ChangeShapes Go.WideShapes Go.ChangeAt Go.RowKit
/-- A slice of ints that came in. -/
structure Si (w : World) (v : Value) (l : List Int) : Prop where
  form : ∃ ao cap, v = .slice ao l.length cap ∧ l.length ≤ cap ∧ cap ≤ maxLen ∧ (ao = none → cap = 0) ∧
    (l ≠ [] → ∃ b off, ao = some ⟨b, off, none⟩ ∧ ∀ j, j < l.length → w.cell? ⟨b, off + j, none⟩ = some (.int .i64 (l.getD j 0)))
  rng : ∀ n ∈ l, I64 n
theorem Si.mod {w w' : World} {v : Value} {l : List Int} (h : Si w v l) (hm : Mod (fun _ => False) w w') : Si w' v l := by
  obtain ⟨ao, cap, rfl, h1, h2, h3, h4⟩ := h.form
  refine ⟨⟨ao, cap, rfl, h1, h2, h3, fun hl => ?_⟩, h.rng⟩
  obtain ⟨b, off, rfl, hc⟩ := h4 hl
  exact ⟨b, off, rfl, fun j hj => hm.cell (hc j hj) (fun h => h)⟩
section
variable {H : Type} {enc : TypeId × Value → H} {W : World}
theorem cellsInt : Try.prog.cellsOf 3 = 1 := by kernel_rfl
theorem open_l {v : Value} {d : DataW H} {p : List MemPlace} (h : DataW.Trod enc Try.prog W 0 (fun _ => true) true 49 v d p) (hv : ∃ ao len cap, v = .slice ao len cap) : ∃ l, Si W v l := by
  obtain ⟨ao0, len0, cap0, rfl⟩ := hv
  obtain ⟨fuel, hf⟩ := h
  rcases open_ints Try.underlying49 Try.underlying3 cellsInt hf with ⟨hcs, _⟩ | ⟨a, len, cap, zs, hcs, _, hl, hm, hz, _, hcell, hwz⟩
  · simp [Value.cells] at hcs
    obtain ⟨rfl, rfl, rfl⟩ := hcs
    exact ⟨[], ⟨⟨none, 0, rfl, Nat.le_refl _, by simp [maxLen], fun _ => rfl, fun h => absurd rfl h⟩, by simp⟩⟩
  · simp [Value.cells] at hcs
    obtain ⟨rfl, rfl, rfl⟩ := hcs
    simp only [if_true] at hz
    have hlen : (zs.take len0).length = len0 := by simp; omega
    refine ⟨zs.take len0, ⟨⟨some a, cap0, by rw [hlen], by omega, hm, (by intro h; cases h), fun hne => ?_⟩, fun n hn => ?_⟩⟩
    · have h0 : 0 < len0 := by
        rcases Nat.eq_zero_or_pos len0 with h | h
        · subst h; simp at hne
        · exact h
      obtain ⟨b, off, spot⟩ := a
      have hc0 := hcell 0 (by omega)
      have hspot : spot = none := by simpa [Addr.add] using World.cell?_spot hc0
      subst hspot
      refine ⟨b, off, rfl, fun j hj => ?_⟩
      rw [hlen] at hj
      have := hcell j (by omega)
      rw [add_at] at this
      rw [this]
      simp [hj]
    · have := hwz n (List.mem_of_mem_take hn)
      exact i64_of_wf this
end
end Go.Proofs.Ytifogbhlphofjaa
