/- AlarmDue holds: for any pairs the law answers true and turns nothing that was there. Conditions: none. -/
import Derived.Test.YtkbncndinfimnaaDe
import Derived.SizedLaws
import Derived.Deep.RegionHeld3
namespace Go.Proofs.Ytkbncndinfimnaa
open Go.ChangeShapes Go.WideShapes Go.ChangeAt Go.RowKit
/-- A slice of pairs. -/
structure Pairs (w : World) (val : Value) (ds : List (Int × Int)) : Prop where
  form : ∃ ao cap, val = .slice ao ds.length cap ∧ ds.length ≤ maxLen ∧
    (ds ≠ [] → ∃ b off, ao = some ⟨b, off, none⟩ ∧ ∀ i d, ds[i]? = some d → w.cell? ⟨b, off + i * 2, none⟩ = some (.int .i64 d.1) ∧ w.cell? ⟨b, off + i * 2 + 1, none⟩ = some (.int .i64 d.2))
  each : ∀ d ∈ ds, I64 d.1 ∧ I64 d.2
section
variable {H : Type} {enc : TypeId × Value → H} {W : World}
theorem cells44 : Try.prog.cellsOf 44 = 2 := by kernel_rfl
theorem trod_two {fuel : Nat} {c0 c1 : Value} {x : DataW H × List MemPlace} (h : DataW.trod enc Try.prog W 0 (fun _ => true) true fuel 44 [c0, c1] = some x) :
    ∃ n y0 y1, DataW.trod enc Try.prog W 0 (fun _ => true) true n 3 [c0] = some y0 ∧ DataW.trod enc Try.prog W 0 (fun _ => true) true n 3 [c1] = some y1 := by
  match fuel, h with
  | 0, h => simp [DataW.trod] at h
  | n + 1, h =>
    refine ⟨n, ?_⟩
    unfold DataW.trod at h
    rw [Try.underlying44] at h
    simp [show List.range 2 = [0, 1] from rfl, cells3] at h
    replace h := h.2
    revert h
    generalize DataW.trod enc Try.prog W 0 (fun _ => true) true n 3 [c0] = a
    generalize DataW.trod enc Try.prog W 0 (fun _ => true) true n 3 [c1] = b
    intro h
    cases a <;> cases b <;> simp at h ⊢
theorem open_pairs {v : Value} {d : DataW H} {p : List MemPlace} (h : DataW.Trod enc Try.prog W 0 (fun _ => true) true 43 v d p) (hv : ∃ ao len cap, v = .slice ao len cap) :
    ∃ ds : List (Int × Int), Pairs W v ds := by
  obtain ⟨ao0, len0, cap0, rfl⟩ := hv
  obtain ⟨fuel, hf⟩ := h
  rcases Deep.open_slice Try.underlying43 hf with ⟨hcs, hx⟩ | ⟨a, len, cap, m, n, D, Pl, hcs, _, hl, hm, hmm, hx, hel⟩
  · simp [Value.cells] at hcs
    obtain ⟨rfl, rfl, rfl⟩ := hcs
    exact ⟨[], ⟨⟨none, 0, rfl, by simp [maxLen], fun h => absurd rfl h⟩, by simp⟩⟩
  · simp [Value.cells] at hcs
    obtain ⟨rfl, rfl, rfl⟩ := hcs
    simp only [if_true] at hmm
    subst hmm
    rw [cells44] at hel
    have one : ∀ i, ∃ x : Int × Int, i < len0 → (W.cell? (a.add (i * 2)) = some (.int .i64 x.1) ∧ W.cell? (a.add (i * 2 + 1)) = some (.int .i64 x.2)) ∧ (I64 x.1 ∧ I64 x.2) := by
      intro i
      by_cases hi : i < len0
      · obtain ⟨cs, hcells, ht⟩ := hel i (by omega)
        obtain ⟨_, hlen, hc⟩ := World.cells?_some hcells
        match cs, hlen with
        | [c0, c1], _ =>
          obtain ⟨n2, y0, y1, t0, t1⟩ := trod_two ht
          obtain ⟨k0, e0, r0, w0⟩ := DataW.trod_int Try.underlying3 t0
          obtain ⟨k1, e1, r1, w1⟩ := DataW.trod_int Try.underlying3 t1
          simp at e0 e1
          subst e0 e1
          refine ⟨(k0, k1), fun _ => ⟨?_, ⟨i64_of_wf w0, i64_of_wf w1⟩⟩⟩
          have q0 := hc 0 (by omega)
          have q1 := hc 1 (by omega)
          simp only [Deep.add_add] at q0 q1
          simp at q0 q1
          exact ⟨q0, q1⟩
      · exact ⟨(0, 0), fun h => absurd h hi⟩
    obtain ⟨f, hfx⟩ := Classical.axiomOfChoice one
    have hdl : ((List.range len0).map f).length = len0 := by simp
    refine ⟨(List.range len0).map f, ⟨⟨some a, m, by rw [hdl], by rw [hdl]; omega, fun hne => ?_⟩, ?_⟩⟩
    · have h0 : 0 < len0 := by
        rcases Nat.eq_zero_or_pos len0 with h | h
        · subst h; simp at hne
        · exact h
      obtain ⟨b, off, spot⟩ := a
      have hc0 := (hfx 0 h0).1.1
      have hspot : spot = none := by simpa [Addr.add] using World.cell?_spot hc0
      subst hspot
      refine ⟨b, off, rfl, fun i d hd => ?_⟩
      have hi : i < len0 := by
        rcases Nat.lt_or_ge i len0 with h | h
        · exact h
        · rw [List.getElem?_eq_none (by rw [hdl]; exact h)] at hd; cases hd
      have ed : d = f i := by simpa [hi] using hd.symm
      subst ed
      have := (hfx i hi).1
      simpa only [add_at, Nat.add_assoc] using this
    · intro d hd
      obtain ⟨i, hi, rfl⟩ := List.mem_map.1 hd
      exact (hfx i (List.mem_range.1 hi)).2
end
theorem Pairs.at {w : World} {ao : Option Addr} {cap : Nat} {ds : List (Int × Int)} (h : Pairs w (.slice ao ds.length cap) ds) {k : Nat} {d : Int × Int} (hk : ds[k]? = some d) :
    ∃ b off, ao = some ⟨b, off, none⟩ ∧ ∀ w', Mod (fun _ => False) w w' → w'.cell? ⟨b, off + k * 2, none⟩ = some (.int .i64 d.1) ∧ w'.cell? ⟨b, off + k * 2 + 1, none⟩ = some (.int .i64 d.2) := by
  obtain ⟨ao', cap', e, _, h4⟩ := h.form
  simp only [Value.slice.injEq, true_and] at e
  obtain ⟨rfl, rfl⟩ := e
  obtain ⟨b, off, rfl, hc⟩ := h4 (by rintro rfl; simp at hk)
  refine ⟨b, off, rfl, fun w' hm => ?_⟩
  obtain ⟨c0, c1⟩ := hc k d hk
  exact ⟨hm.cell c0 (fun h => h), hm.cell c1 (fun h => h)⟩
/-- When a timer is set, and to how many ticks. -/
structure Wn (fr tk : Nat → Int) : Prop where
  fr : ∀ k, 0 ≤ fr k ∧ fr k < 30
  tk : ∀ k, 1 ≤ tk k ∧ tk k ≤ 60
/-- What is left at tick T of N timers, of which those below j have had their turn. -/
def st (fr tk : Nat → Int) (N : Nat) (T : Int) (j : Nat) : Int → Int := fun k =>
  if 0 ≤ k ∧ k < N ∧ (fr k.toNat < T ∨ fr k.toNat = T ∧ k < j) ∧ T < fr k.toNat + tk k.toNat then fr k.toNat + tk k.toNat - T else 0
/-- Who is due at tick T. -/
def wt (fr tk : Nat → Int) (T : Int) : Int → Int := fun k => if fr k.toNat + tk k.toNat = T + 1 then 1 else 0
theorem st_ok {fr tk : Nat → Int} (h : Wn fr tk) {N : Nat} (hN : N ≤ 16) {T : Int} (hT : 0 ≤ T) (j : Nat) : Ok 16 (st fr tk N T j) := by
  refine ⟨by omega, by omega, fun k => ?_, fun k hk => ?_⟩
  · have h1 := h.fr k.toNat
    have h2 := h.tk k.toNat
    unfold st
    split <;> omega
  · unfold st at hk
    split at hk
    · omega
    · exact absurd rfl hk
theorem st_zero {fr tk : Nat → Int} (h : Wn fr tk) (N : Nat) : st fr tk N 0 0 = fun _ => 0 := by
  funext k
  have h1 := h.fr k.toNat
  unfold st
  rw [if_neg (by omega)]
theorem st_set {fr tk : Nat → Int} (h : Wn fr tk) {N : Nat} {T : Int} {j : Nat} (hj : j < N) (e : fr j = T) : upd (st fr tk N T j) j (tk j) = st fr tk N T (j + 1) := by
  have h2 := h.tk j
  funext k
  unfold upd st
  by_cases ek : k = j
  · subst ek
    rw [if_pos rfl, Int.toNat_natCast, if_pos (by omega)]
    omega
  · rw [if_neg ek]
    by_cases hc : 0 ≤ k ∧ k < N ∧ (fr k.toNat < T ∨ fr k.toNat = T ∧ k < j) ∧ T < fr k.toNat + tk k.toNat
    · rw [if_pos hc, if_pos (by omega)]
    · rw [if_neg hc, if_neg (by omega)]
theorem st_not {fr tk : Nat → Int} {N : Nat} {T : Int} {j : Nat} (e : ¬ fr j = T) : st fr tk N T j = st fr tk N T (j + 1) := by
  funext k
  unfold st
  by_cases ek : k = j
  · subst ek
    rw [Int.toNat_natCast]
    by_cases hc : 0 ≤ (j : Int) ∧ (j : Int) < N ∧ (fr j < T ∨ fr j = T ∧ (j : Int) < j) ∧ T < fr j + tk j
    · rw [if_pos hc, if_pos (by omega)]
    · rw [if_neg hc, if_neg (by omega)]
  · by_cases hc : 0 ≤ k ∧ k < N ∧ (fr k.toNat < T ∨ fr k.toNat = T ∧ k < j) ∧ T < fr k.toNat + tk k.toNat
    · rw [if_pos hc, if_pos (by omega)]
    · rw [if_neg hc, if_neg (by omega)]
theorem st_at {fr tk : Nat → Int} {N : Nat} {T : Int} {j : Nat} (hj : j < N) : st fr tk N T (j + 1) j = if T < fr j ∨ fr j + tk j - T < 0 then 0 else fr j + tk j - T := by
  unfold st
  rw [Int.toNat_natCast]
  by_cases hc : 0 ≤ (j : Int) ∧ (j : Int) < N ∧ (fr j < T ∨ fr j = T ∧ (j : Int) < ((j + 1 : Nat) : Int)) ∧ T < fr j + tk j
  · rw [if_pos hc, if_neg (by omega)]
  · rw [if_neg hc]
    split <;> omega
theorem st_tick {fr tk : Nat → Int} (N : Nat) (T : Int) : tF (st fr tk N T N) = st fr tk N (T + 1) 0 := by
  funext k
  unfold tF st
  by_cases hc : 0 ≤ k ∧ k < N ∧ (fr k.toNat < T ∨ fr k.toNat = T ∧ k < N) ∧ T < fr k.toNat + tk k.toNat
  · rw [if_pos hc, if_neg (by omega)]
    by_cases hd : T + 1 < fr k.toNat + tk k.toNat
    · rw [if_pos (by omega)]
      omega
    · rw [if_neg (by omega)]
      omega
  · rw [if_neg hc, if_pos rfl, if_neg (by omega)]
theorem dl_more {f : Int → Int} {N : Nat} (h : ∀ k : Nat, N ≤ k → ¬ f k = 1) : ∀ d, dl f (N + d) = dl f N
  | 0 => rfl
  | d + 1 => by rw [← Nat.add_assoc, dl_not (h _ (by omega)), dl_more h d]
theorem dl_same {f g : Int → Int} {N : Nat} (h : ∀ k : Nat, k < N → (f k = 1 ↔ g k = 1)) : dl f N = dl g N := by
  unfold dl
  congr 1
  apply List.filter_congr
  intro k hk
  have := h k (List.mem_range.1 hk)
  simp [this]
theorem st_due {fr tk : Nat → Int} (h : Wn fr tk) {N : Nat} (hN : N ≤ 16) (T : Int) : dl (st fr tk N T N) 16 = dl (wt fr tk T) N := by
  obtain ⟨d, hd⟩ : ∃ d, 16 = N + d := ⟨16 - N, by omega⟩
  rw [hd, dl_more (fun k hk => by unfold st; rw [if_neg (by omega)]; decide) d]
  apply dl_same
  intro k hk
  have h2 := h.tk k
  unfold st wt
  rw [Int.toNat_natCast]
  by_cases hc : 0 ≤ (k : Int) ∧ (k : Int) < N ∧ (fr k < T ∨ fr k = T ∧ (k : Int) < N) ∧ T < fr k + tk k
  · rw [if_pos hc]
    split <;> omega
  · rw [if_neg hc]
    split
    · omega
    · simp
theorem wt_at (fr tk : Nat → Int) (T : Int) (k : Nat) : wt fr tk T k = 1 ↔ fr k + tk k = T + 1 := by
  unfold wt
  rw [Int.toNat_natCast]
  split
  · simp_all
  · simp_all
theorem Own.two {S : Nat → Prop} {w wr w1 : World} {g cap sz : Nat} {v' : Value} {l' : List Int} {c : Int} {t : TypeId} (hm : Mod S w wr) (h1 : w.heap.size ≤ sz) (h2 : sz ≤ wr.heap.size) (hv : ∀ g, v'.ownBlock = some g → sz ≤ g)
    (hown : w1.ownsRow 0 3 1 (.slice (some ⟨g, 0, none⟩) (l'.length + 1) cap) (l'.length + 1) (U l' ++ [.int .i64 c]))
    (hgrow : (wr.alloc (.cells #[.int .i64 c] t)).grownBy w1 v'.ownBlock) (hg : v'.ownBlock = some g ∨ g = wr.heap.size + 1) :
    Own w1 (.slice (some ⟨g, 0, none⟩) (l'.length + 1) cap) (l' ++ [c]) ∧ Mod S w w1 ∧ ∀ q, (Value.slice (some ⟨g, 0, none⟩) (l'.length + 1) cap).ownBlock = some q → sz ≤ q := by
  have R := Own.one hm (fun q hq => by have := hv q hq; omega) hown hgrow hg
  refine ⟨R.1, R.2.1, fun q hq => ?_⟩
  simp only [Value.ownBlock, Option.some.injEq] at hq
  subst hq
  rcases hg with h | h
  · exact hv _ h
  · omega
set_option maxRecDepth 100000 in
set_option maxHeartbeats 16000000 in
theorem due_walk (lv : Value) (ds : List (Int × Int)) (w : World) (hd : Pairs w lv ds) :
    Calls Try.prog 4 #[lv] w fun e w' => e = .returned (.bool true) ∧ Mod (fun _ => False) w w' := by
  obtain ⟨i0, hi, hz0, hz1, hz2⟩ := info_parts info3
  obtain ⟨al, cl, rfl, hlm, _⟩ := hd.form
  unfold maxLen at hlm
  have HD : Hid (Pairs w (.slice al ds.length cl) ds) := hd
  clear hd
  obtain ⟨fr, hfr⟩ : ∃ fr : Nat → Int, fr = fun k => (ds.getD k (0, 0)).1 % 30 := ⟨_, rfl⟩
  obtain ⟨tk, htk⟩ : ∃ tk : Nat → Int, tk = fun k => 1 + (ds.getD k (0, 0)).2 % 60 := ⟨_, rfl⟩
  have HF : Hid (∀ k d, ds[k]? = some d → fr k = d.1 % 30 ∧ tk k = 1 + d.2 % 60) := by
    intro k d hk
    rw [hfr, htk]
    simp [List.getD, hk]
  have HWn : Hid (Wn fr tk) := by
    refine ⟨fun k => ?_, fun k => ?_⟩
    · rw [hfr]; simp only; omega
    · rw [htk]; simp only; omega
  clear hfr htk
  obtain ⟨N, hN⟩ : ∃ N, N = min ds.length 16 := ⟨_, rfl⟩
  have hN1 : N ≤ 16 := by omega
  have hN2 : N ≤ ds.length := by omega
  have hN3 : N = ds.length ∨ (N = 16 ∧ 16 < ds.length) := by omega
  clear hN
  have HW := works_any
  have HNew := New_ok 16
  have HS := Set_any
  have HL := Left_any
  have HT := due_any
  go_enter Try.func4, Try.ntmps4
  go_wp2_with fail
  refine (HW _).mono ?_
  rintro e w1 ⟨rfl, hm1⟩
  go_wp2_with fail
  refine (HNew _ (by omega) (by omega)).mono ?_
  rintro e w2 ⟨p, B, rfl, h, hm2, hp, hB⟩
  have s1 := hm1.size
  have hm := hm1.and hm2
  have hp' : w.heap.size ≤ p ∧ w.heap.size ≤ B := by omega
  clear hm1 hm2 hp hB HW HNew s1
  obtain ⟨hp, hB⟩ := hp'
  rw [← st_zero HWn.out N] at h
  go_wp2_with fail
  go_loopw [5] (fun i wr => ∃ (T : Nat), i = .int .i64 T ∧ T ≤ 100 ∧ Hid (Al wr p B 16 (st fr tk N T 0)) ∧ Hid (Mod (fun _ => False) w wr)) (fun i _ => 100 - (intOf i).toNat)
  case atStart => exact ⟨0, rfl, by omega, h, hm⟩
  case round =>
    clear h hm
    obtain ⟨T, rfl, hT, h, hm⟩ := hrel
    by_cases hT2 : T < 100
    · have hTi : (T : Int) < 100 := by omega
      have hBl := h.out.map.lt
      have hpl := h.out.lt
      go_wp2_with fail
      obtain ⟨sz, hsz⟩ : ∃ sz, sz = wr.heap.size := ⟨_, rfl⟩
      rw [← hsz] at hBl hpl
      have hsw : Hid (sz ≤ wr.heap.size) := by show _ ≤ _; omega
      have hws : Hid (w.heap.size ≤ sz) := by have := hm.out.size; show _ ≤ _; omega
      clear hsz
      go_loopw [6, 7] (fun s i wr => ∃ (k : Nat), i = .int .i64 k ∧ k ≤ N ∧ Hid (Own wr s (dl (wt fr tk T) k)) ∧ Hid (∀ g, s.ownBlock = some g → sz ≤ g) ∧ Hid (sz ≤ wr.heap.size) ∧ Hid (Al wr p B 16 (st fr tk N T k)) ∧ Hid (Mod (fun _ => False) w wr)) (fun _ i _ => N - (intOf i).toNat)
      case atStart => exact ⟨0, rfl, by omega, by show Own _ _ _; exact Own.nil _, by intro g hg; simp [Value.ownBlock] at hg, hsw, h, hm⟩
      case round =>
        clear h hm hsw
        obtain ⟨k, rfl, hk, hown, hnew, hsw, h, hm⟩ := hrel
        by_cases hkN : k < N
        · have hk1 : (k : Int) < (ds.length : Int) := by omega
          have hk2 : (k : Int) < 16 := by omega
          obtain ⟨d, hdk⟩ : ∃ d, ds[k]? = some d := ⟨_, List.getElem?_eq_getElem (by omega)⟩
          obtain ⟨lb, lo, rfl, hcells⟩ := HD.out.at hdk
          obtain ⟨ix, iy⟩ := HD.out.each d (List.mem_of_getElem? hdk)
          obtain ⟨c0, c1⟩ := hcells wr hm.out
          obtain ⟨ef, et⟩ := HF.out k d hdk
          have q1 := HWn.out.fr k
          have q2 := HWn.out.tk k
          obtain ⟨x, y⟩ := d
          simp only at c0 c1 ix iy ef et
          have HE1 : Hid (x % 30 = fr k) := ef.symm
          have HE2 : Hid (1 + y % 60 = tk k) := et.symm
          have IX : Hid (I64 x) := ix
          have IY : Hid (I64 y) := iy
          have HST : Hid (∀ e : fr k = T, upd (st fr tk N T k) k (tk k) = st fr tk N T (k + 1)) := fun e => st_set HWn.out hkN e
          have HSN : Hid (∀ e : ¬ fr k = T, st fr tk N T k = st fr tk N T (k + 1)) := fun e => st_not e
          have HSA : Hid (st fr tk N T (k + 1) k = if (T : Int) < fr k ∨ fr k + tk k - T < 0 then 0 else fr k + tk k - T) := st_at hkN
          have HDD : Hid (fr k + tk k = (T : Int) + 1 → dl (wt fr tk T) (k + 1) = dl (wt fr tk T) k ++ [(k : Int)]) := fun e => dl_due ((wt_at fr tk T k).2 e)
          have HDN : Hid (¬ fr k + tk k = (T : Int) + 1 → dl (wt fr tk T) (k + 1) = dl (wt fr tk T) k) := fun e => dl_not (fun e' => e ((wt_at fr tk T k).1 e'))
          have hll : Hid ((dl (wt fr tk T) k).length ≤ 16) := by have := dl_len (wt fr tk T) k; show _ ≤ _; omega
          have hok : Hid (Ok 16 (st fr tk N T (k + 1))) := st_ok HWn.out hN1 (by omega) _
          have IK : Hid (I64 (k : Int)) := by unfold Hid I64; omega
          generalize st fr tk N T k = f0 at *
          obtain ⟨f1, hf1⟩ : ∃ f1, f1 = st fr tk N T (k + 1) := ⟨_, rfl⟩
          rw [← hf1] at HST HSN HSA hok
          have HF1 : Hid (f1 = st fr tk N T (k + 1)) := hf1
          obtain ⟨l1, hl1⟩ : ∃ l1, l1 = dl (wt fr tk T) (k + 1) := ⟨_, rfl⟩
          rw [← hl1] at HDD HDN
          have HL1 : Hid (l1 = dl (wt fr tk T) (k + 1)) := hl1
          clear hf1 hl1
          generalize dl (wt fr tk T) k = l0 at *
          generalize hfk : fr k = F at *
          generalize htk : tk k = K at *
          clear hfk htk hdk hcells ix iy ef et
          go_wp2_with fail
          replace hm := hm.out.drew
          replace h := h.out.drew
          have hown2 : Own wr.drew u6 l0 := hown.out
          clear hown
          have hown := hown2
          clear hown2
          go_region_held3 (fun y' => y'.cell? ⟨lb, lo + k * 2, none⟩ = some (.int .i64 x) ∧ y'.cell? ⟨lb, lo + k * 2 + 1, none⟩ = some (.int .i64 y)) (first | exact ⟨c0, c1⟩ | go_keep)
            (first | (go_at_call 11; refine (Bring_any _ _ _ (by first | exact IX.out | exact IY.out) (by omega) (by omega)).mono ?_; rintro e w7 ⟨rfl, rfl⟩))
          rw [HE1.out, HE2.out]
          rw [show IntKind.i64.wrap K = K by rw [IntKind.wrap_i64]; omega]
          clear HE1 HE2 IX IY c0 c1
          have cs : (F = T ∧ K = 1 ∧ F + K = (T : Int) + 1) ∨ (F = T ∧ ¬ K = 1 ∧ ¬ F + K = (T : Int) + 1) ∨ ((T : Int) < F ∧ ¬ F = T ∧ ¬ F + K = (T : Int) + 1) ∨ (F < T ∧ ¬ F = T ∧ ¬ (T : Int) < F ∧ F + K = (T : Int) + 1 ∧ ¬ F + K - T < 0) ∨ (F < T ∧ ¬ F = T ∧ ¬ (T : Int) < F ∧ ¬ F + K = (T : Int) + 1 ∧ F + K - T < 0) ∨ (F < T ∧ ¬ F = T ∧ ¬ (T : Int) < F ∧ ¬ F + K = (T : Int) + 1 ∧ ¬ F + K - T < 0) := by omega
          rcases cs with ⟨b1, b2, b3⟩ | ⟨b1, b2, b3⟩ | ⟨b1, b2, b3⟩ | ⟨b1, b2, b4, b3, b5⟩ | ⟨b1, b2, b4, b3, b5⟩ | ⟨b1, b2, b4, b3, b5⟩
          · -- set, due
            have LV : Hid (f1 k = 1) := by have := HSA.out; show f1 k = _; rw [this]; split <;> omega
            have HL2 := fun w' h => Left_at (p := p) (B := B) (n := 16) (f := f1) (k : Int) (1) (w := w') h (by omega) IK.out LV.out
            have e1 : Hid (l1 = l0 ++ [(k : Int)]) := HDD.out (by omega)
            have HS2 := fun w' h => Set_at (p := p) (B := B) (n := 16) (f := f0) (k : Int) K 0 f1 (w := w') h (by omega) (by omega) (by unfold sE; rw [if_neg (by omega)]) (by unfold sF; rw [if_neg (by omega)]; exact HST.out (by omega))
            have z1 : (F == (T : Int)) = true := by simp; omega
            have z2 : (F + K == (T : Int) + 1) = true := by simp; omega
            have z3 : decide ((T : Int) < F) = false := by simp; omega
            have z4 : decide (F + K - T < 0) = false := by simp; omega
            clear HSN HST HDD HDN HSA LV b1 b2 b3 hTi hk1 hk2
            go_wp2_with fail
            refine (HS2 _ h).mono ?_
            rintro e w8 ⟨rfl, h', hm5⟩
            have hown' := hown.mod hm5 (fun g hg e => by have := hnew.out g hg; omega)
            have hsw' : Hid (sz ≤ w8.heap.size) := by have := hm5.size; have := hsw.out; show _ ≤ _; simp at *; omega
            replace hm := hm.trans hm5 (V := fun _ => False) (fun _ _ h => h) (fun i hi hh => by have := hws.out; omega)
            clear h hm5 hown hsw HS2
            have h := h'
            have hown := hown'
            have hsw := hsw'
            clear h' hown' hsw'
            go_wp2_with (at_builtin; refine wpList_append_lies _ rfl _ _ 36 rfl 0 3 i0 (.int .i64 0) 1 8 Try.underlying36 hi hz0 hz1 hz2 rfl (by decide) u6 l0.length (U l0) rfl (hown.alloc _) ⟨w8.heap.size, 0, none⟩ 1 1 [.int .i64 (k : Int)] rfl rfl (app1 _ _ _) (U_one [(k : Int)]) (by omega) (by have := hll.out; simp only [maxLen]; omega) (by have := hll.out; omega) (Nat.zero_le _) (w8.heap.size + 1) (by simp) ?_; intro g cap1 w3 hown1 hgrow hg hlt)
            have R := Own.two hm hws.out hsw.out hnew.out hown1 hgrow hg
            have hm3 : Mod (fun i => i ≠ p ∧ i ≠ B) w8 w3 := ((Mod.refl _ _).alloc _).grown hgrow (fun q hq hlt => by have := hnew.out q hq; constructor <;> omega)
            replace h := h.mod hm3 (by simp) (by simp)
            have hsw3 : Hid (sz ≤ w3.heap.size) := by have := hm3.size; have := hsw.out; show _ ≤ _; omega
            refine (HL2 _ h).mono ?_
            rintro e w9 ⟨rfl, rfl⟩
            go_wp2
            go_roundw
            case rel => exact ⟨k + 1, by go_num, by omega, by show Own _ _ _; rw [← HL1.out, e1.out]; exact R.1, R.2.2, hsw3, by show Al _ _ _ _ _; rw [← HF1.out]; exact h, R.2.1⟩
            case measure => simp [intOf]; omega
          · -- set, not due
            have LV : Hid (f1 k = K) := by have := HSA.out; show f1 k = _; rw [this]; split <;> omega
            have HL2 := fun w' h => Left_at (p := p) (B := B) (n := 16) (f := f1) (k : Int) (K) (w := w') h (by omega) IK.out LV.out
            have e1 : Hid (l1 = l0) := HDN.out (by omega)
            have HS2 := fun w' h => Set_at (p := p) (B := B) (n := 16) (f := f0) (k : Int) K 0 f1 (w := w') h (by omega) (by omega) (by unfold sE; rw [if_neg (by omega)]) (by unfold sF; rw [if_neg (by omega)]; exact HST.out (by omega))
            have z1 : (F == (T : Int)) = true := by simp; omega
            have z2 : (F + K == (T : Int) + 1) = false := by simp; omega
            have z3 : decide ((T : Int) < F) = false := by simp; omega
            have z4 : decide (F + K - T < 0) = false := by simp; omega
            clear HSN HST HDD HDN HSA LV b1 b2 b3 hTi hk1 hk2
            go_wp2_with fail
            refine (HS2 _ h).mono ?_
            rintro e w8 ⟨rfl, h', hm5⟩
            have hown' := hown.mod hm5 (fun g hg e => by have := hnew.out g hg; omega)
            have hsw' : Hid (sz ≤ w8.heap.size) := by have := hm5.size; have := hsw.out; show _ ≤ _; simp at *; omega
            replace hm := hm.trans hm5 (V := fun _ => False) (fun _ _ h => h) (fun i hi hh => by have := hws.out; omega)
            clear h hm5 hown hsw HS2
            have h := h'
            have hown := hown'
            have hsw := hsw'
            clear h' hown' hsw'
            go_wp2_with fail
            refine (HL2 _ h).mono ?_
            rintro e w9 ⟨rfl, rfl⟩
            go_wp2
            go_roundw
            case rel => exact ⟨k + 1, by go_num, by omega, by show Own _ _ _; rw [← HL1.out, e1.out]; exact hown, hnew, hsw, by show Al _ _ _ _ _; rw [← HF1.out]; exact h, hm⟩
            case measure => simp [intOf]; omega
          · -- later
            have LV : Hid (f1 k = 0) := by have := HSA.out; show f1 k = _; rw [this]; split <;> omega
            have HL2 := fun w' h => Left_at (p := p) (B := B) (n := 16) (f := f1) (k : Int) (0) (w := w') h (by omega) IK.out LV.out
            have e1 : Hid (l1 = l0) := HDN.out (by omega)
            have ef01 : f0 = f1 := HSN.out (by omega)
            rw [ef01] at h
            have hsw' : Hid (sz ≤ wr.drew.heap.size) := hsw.out
            clear HSN HST HDD HDN HSA LV ef01 hsw
            have hsw := hsw'
            clear hsw'
            obtain ⟨w8, hw8⟩ : ∃ w8, w8 = wr.drew := ⟨_, rfl⟩
            rw [← hw8] at h hown hm hsw ⊢
            clear hw8
            go_wp2_with fail
            refine (HL2 _ h).mono ?_
            rintro e w9 ⟨rfl, rfl⟩
            go_wp2
            go_roundw
            case rel => exact ⟨k + 1, by go_num, by omega, by show Own _ _ _; rw [← HL1.out, e1.out]; exact hown, hnew, hsw, by show Al _ _ _ _ _; rw [← HF1.out]; exact h, hm⟩
            case measure => simp [intOf]; omega
          · -- earlier, due
            have LV : Hid (f1 k = 1) := by have := HSA.out; show f1 k = _; rw [this]; split <;> omega
            have HL2 := fun w' h => Left_at (p := p) (B := B) (n := 16) (f := f1) (k : Int) (1) (w := w') h (by omega) IK.out LV.out
            have e1 : Hid (l1 = l0 ++ [(k : Int)]) := HDD.out (by omega)
            have ef01 : f0 = f1 := HSN.out (by omega)
            rw [ef01] at h
            have hsw' : Hid (sz ≤ wr.drew.heap.size) := hsw.out
            clear HSN HST HDD HDN HSA LV ef01 hsw
            have hsw := hsw'
            clear hsw'
            obtain ⟨w8, hw8⟩ : ∃ w8, w8 = wr.drew := ⟨_, rfl⟩
            rw [← hw8] at h hown hm hsw ⊢
            clear hw8
            go_wp2_with (at_builtin; refine wpList_append_lies _ rfl _ _ 36 rfl 0 3 i0 (.int .i64 0) 1 8 Try.underlying36 hi hz0 hz1 hz2 rfl (by decide) u6 l0.length (U l0) rfl (hown.alloc _) ⟨w8.heap.size, 0, none⟩ 1 1 [.int .i64 (k : Int)] rfl rfl (app1 _ _ _) (U_one [(k : Int)]) (by omega) (by have := hll.out; simp only [maxLen]; omega) (by have := hll.out; omega) (Nat.zero_le _) (w8.heap.size + 1) (by simp) ?_; intro g cap1 w3 hown1 hgrow hg hlt)
            have R := Own.two hm hws.out hsw.out hnew.out hown1 hgrow hg
            have hm3 : Mod (fun i => i ≠ p ∧ i ≠ B) w8 w3 := ((Mod.refl _ _).alloc _).grown hgrow (fun q hq hlt => by have := hnew.out q hq; constructor <;> omega)
            replace h := h.mod hm3 (by simp) (by simp)
            have hsw3 : Hid (sz ≤ w3.heap.size) := by have := hm3.size; have := hsw.out; show _ ≤ _; omega
            refine (HL2 _ h).mono ?_
            rintro e w9 ⟨rfl, rfl⟩
            go_wp2
            go_roundw
            case rel => exact ⟨k + 1, by go_num, by omega, by show Own _ _ _; rw [← HL1.out, e1.out]; exact R.1, R.2.2, hsw3, by show Al _ _ _ _ _; rw [← HF1.out]; exact h, R.2.1⟩
            case measure => simp [intOf]; omega
          · -- gone
            have LV : Hid (f1 k = 0) := by have := HSA.out; show f1 k = _; rw [this]; split <;> omega
            have HL2 := fun w' h => Left_at (p := p) (B := B) (n := 16) (f := f1) (k : Int) (0) (w := w') h (by omega) IK.out LV.out
            have e1 : Hid (l1 = l0) := HDN.out (by omega)
            have ef01 : f0 = f1 := HSN.out (by omega)
            rw [ef01] at h
            have hsw' : Hid (sz ≤ wr.drew.heap.size) := hsw.out
            clear HSN HST HDD HDN HSA LV ef01 hsw
            have hsw := hsw'
            clear hsw'
            obtain ⟨w8, hw8⟩ : ∃ w8, w8 = wr.drew := ⟨_, rfl⟩
            rw [← hw8] at h hown hm hsw ⊢
            clear hw8
            go_wp2_with fail
            refine (HL2 _ h).mono ?_
            rintro e w9 ⟨rfl, rfl⟩
            go_wp2
            go_roundw
            case rel => exact ⟨k + 1, by go_num, by omega, by show Own _ _ _; rw [← HL1.out, e1.out]; exact hown, hnew, hsw, by show Al _ _ _ _ _; rw [← HF1.out]; exact h, hm⟩
            case measure => simp [intOf]; omega
          · -- earlier, not due
            have LV : Hid (f1 k = F + K - T) := by have := HSA.out; show f1 k = _; rw [this]; split <;> omega
            have HL2 := fun w' h => Left_at (p := p) (B := B) (n := 16) (f := f1) (k : Int) (F + K - T) (w := w') h (by omega) IK.out LV.out
            have e1 : Hid (l1 = l0) := HDN.out (by omega)
            have ef01 : f0 = f1 := HSN.out (by omega)
            rw [ef01] at h
            have hsw' : Hid (sz ≤ wr.drew.heap.size) := hsw.out
            clear HSN HST HDD HDN HSA LV ef01 hsw
            have hsw := hsw'
            clear hsw'
            obtain ⟨w8, hw8⟩ : ∃ w8, w8 = wr.drew := ⟨_, rfl⟩
            rw [← hw8] at h hown hm hsw ⊢
            clear hw8
            go_wp2_with fail
            refine (HL2 _ h).mono ?_
            rintro e w9 ⟨rfl, rfl⟩
            go_wp2
            go_roundw
            case rel => exact ⟨k + 1, by go_num, by omega, by show Own _ _ _; rw [← HL1.out, e1.out]; exact hown, hnew, hsw, by show Al _ _ _ _ _; rw [← HF1.out]; exact h, hm⟩
            case measure => simp [intOf]; omega
        · obtain rfl : k = N := by omega
          have eD := st_due HWn.out hN1 (T : Int)
          have eT := st_tick (fr := fr) (tk := tk) k (T : Int)
          have HT2 := fun w' h => due_at (p := p) (B := B) (n := 16) (f := st fr tk k T k) _ _ (w := w') h (st_ok HWn.out hN1 (by omega) _) eD eT
          generalize st fr tk k T k = f0 at *
          have HEX : Hid (st fr tk k ((T : Int) + 1) 0 = st fr tk k ((T + 1 : Nat) : Int) 0) := by simp [Hid]
          generalize st fr tk k ((T : Int) + 1) 0 = f1 at *
          generalize dl (wt fr tk T) k = l0 at *
          clear eD eT
          replace hm := hm.out
          replace h := h.out
          replace hown := hown.out
          have hkc : (¬ (k : Int) < (ds.length : Int)) ∨ ((k : Int) < (ds.length : Int) ∧ ¬ (k : Int) < 16) := by omega
          rcases hkc with hkc | ⟨hkc, hkd⟩
          all_goals
            go_wp2_with fail
            refine (HT2 _ h).mono ?_
            rintro e w4 ⟨v, rfl, ho, h', hm5, hnew5⟩
            replace hown := hown.mod hm5 (fun g hg e => by have := hnew.out g hg; omega)
            replace hm := hm.trans hm5 (V := fun _ => False) (fun _ _ h => h) (fun i hi hh => by have := hws.out; omega)
            clear h hm5 HT2
            have HQ := EqInts_at true ho.sl hown.sl (by simp)
            go_wp2_with fail
            refine HQ.mono ?_
            rintro e w5 ⟨rfl, hm5⟩
            have h := h'.mod hm5 (fun h => h) (fun h => h)
            replace hm := hm.and hm5
            rw [HEX.out] at h
            clear HQ ho hown h' hm5
            go_wp2
            go_roundw
            case rel => exact ⟨T + 1, by go_num, by omega, h, hm⟩
            case measure => simp [intOf]; omega
    · obtain rfl : T = 100 := by omega
      replace hm := hm.out
      go_wp2
      go_ret
      exact ⟨rfl, hm⟩
namespace alarmDue
open Go.ChangeShapes Go.WideShapes Go.ChangeAt Go.RowKit
set_option maxRecDepth 100000 in
theorem lifted (os : Os) (started : os.Started) (H : Type) (enc : TypeId × Value → H) :
    ReturnsInHanded {} Try.checked os 4 .any (Rows.alarmDueSpec.pre6 enc Try.prog Try.f4 Rows.alarmDueRow.domain false) (Rows.alarmDueSpec.post enc Try.prog Try.f4 false true false false) := by
  refine returnsInHanded_of_change_sized (C := Try.checked) own started (by kernel_rfl) Try.func4
    (ChangeSpec.witness6 (enc := enc) (C := Try.checked) false ⟨#[], #[.slice none 0 0], []⟩ 8 (by kernel_rfl) (by kernel_rfl) (by kernel_rfl) (by kernel_rfl)) ?_
  intro W base args ds gs before hval0 hW hcnd hsz0 _
  have hval : ∀ (j : Nat) t v, Try.f4.params[j]? = some t → args[j]? = some v → Value.okWide Try.prog W .any base t v := hval0
  have hW' := hW
  obtain ⟨p, q, hA0, hV, rfl, hfz, hnd⟩ := hW
  have hA : DataW.TrodAll enc Try.prog W 0 (fun _ => true) true Try.f4.params.toList args.toList ds p := hA0
  rw [Try.params4] at hA hval
  obtain ⟨v0, vs0, d0, ds0, p0, q0, hargs, rfl, rfl, h0, r0⟩ := trodAll_cons hA
  obtain ⟨rfl, rfl, rfl⟩ := trodAll_nil r0
  obtain rfl : args = #[v0] := by cases args; simp_all
  obtain ⟨rfl, rfl⟩ := trodVars_none hV
  have k0 := h0
  have lt0 : ∀ x ∈ p0, x.block < W.heap.size := by obtain ⟨m, hm⟩ := k0; exact DataW.trod_lt m _ _ _ hm
  obtain ⟨dl0, hd0⟩ := open_pairs h0 (okWide_slice Try.underlying43 (hval 0 43 v0 rfl rfl))
  clear hA0 hval0
  refine (due_walk v0 dl0 W hd0).mono fun e W' ⟨he, hm⟩ => ?_
  subst he
  have bel : Below W.heap.size W W' := hm.below _ (Nat.le_refl _) (fun _ h => h.elim)
  exact ⟨_, rfl, _, _, _, [], _, [], hW', trodAll_mk1 (shut_bool Try.underlying4 _), (trodAll_cons_mk (Below.trod laidOut (by kernel_rfl) (of_decide_eq_true (by kernel_rfl)) k0 bel lt0) trodAll_mk0), rfl, bel.frame _, fun h => by cases h⟩

theorem over : Rows.alarmDueRow.holds Try.pinned (OpenSpec.ofChange Rows.alarmDueSpec) :=
  OpenClaim.holds_of_wide 4 Try.f4 rfl rfl rfl rfl rfl rfl rfl ⟨rfl, rfl, rfl, rfl, rfl⟩ rfl rfl rfl rfl rfl (by kernel_rfl) Try.func4 (by kernel_rfl)
    (of_decide_eq_true (by kernel_rfl)) (by unfold Func.isWrapper; first | (rw [if_pos (by decide +kernel)]; kernel_rfl) | (rw [if_neg (by decide +kernel)]; exact ⟨rfl, rfl⟩))
    (fun os started H enc _ => lifted os started H enc)
end alarmDue
theorem alarmDue_holds : Rows.AlarmDueSaid := alarmDue.over
end Go.Proofs.Ytkbncndinfimnaa
