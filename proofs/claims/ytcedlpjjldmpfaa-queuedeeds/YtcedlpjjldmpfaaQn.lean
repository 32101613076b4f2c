/- Contract of the law's spoil: which blocks it turns. No conditions beyond sizes that a slice has. -/
import Derived.Test.YtcedlpjjldmpfaaQj
namespace Go.Proofs.Ytcedlpjjldmpfaa
open Go.RowKit
/-- A block of bytes that may be written. -/
def By (w : World) (g n : Nat) : Prop := ∃ cur, w.heap[g]? = some (.cells cur 5 (0, 0)) ∧ ∀ j, j < n → ∃ c, cur[j]? = some (.int .u8 c)
theorem By.cell {w : World} {g n : Nat} (h : By w g n) {j : Nat} (hj : j < n) : ∃ c, w.cell? ⟨g, j, none⟩ = some (.int .u8 c) ∧ w.frozen? ⟨g, j, none⟩ = false := by
  obtain ⟨cur, h1, h2⟩ := h
  obtain ⟨c, hc⟩ := h2 j hj
  exact ⟨c, by simp [World.cell?, h1, hc], by simp [World.frozen?, h1]⟩
theorem By.set {w : World} {g n : Nat} (h : By w g n) (j : Nat) (c : Int) : By (w.setCell ⟨g, j, none⟩ (.int .u8 c)) g n := by
  obtain ⟨cur, h1, h2⟩ := h
  refine ⟨cur.setIfInBounds j (.int .u8 c), by simp [World.setCell, Array.getElem?_modify, h1], fun t ht => ?_⟩
  obtain ⟨d, hd⟩ := h2 t ht
  rw [Array.getElem?_setIfInBounds]
  by_cases e : j = t
  · subst e
    rw [if_pos rfl]
    have : j < cur.size := by
      rcases Nat.lt_or_ge j cur.size with h | h
      · exact h
      · rw [Array.getElem?_eq_none h] at hd; cases hd
    rw [if_pos this]
    exact ⟨c, rfl⟩
  · rw [if_neg e]
    exact ⟨d, hd⟩
theorem By.mod {S : Nat → Prop} {w w' : World} {g n : Nat} (h : By w g n) (hm : Mod S w w') (hg : ¬ S g) : By w' g n := by
  obtain ⟨cur, h1, h2⟩ := h
  exact ⟨cur, hm.obj h1 hg, h2⟩
theorem By.ne {w : World} {g n b : Nat} {cur : Array Value} (h : By w g n) (hb : Bk w b 40 cur) : g ≠ b := fun e => by
  obtain ⟨c, h1, _⟩ := h
  rw [e, hb.at'] at h1
  simp at h1
theorem Own.by {w : World} {v : Value} {l : List Int} (h : Own w v l) {g : Nat} (hg : v.ownBlock = some g) : By w g l.length := by
  rcases h.2 with ⟨rfl, _⟩ | ⟨g', cap, cur, rfl, hb, hh, hn, hm, hs, ht⟩
  · simp [Value.ownBlock] at hg
  · simp only [Value.ownBlock, Option.some.injEq] at hg
    subst hg
    refine ⟨cur, hh, fun j hj => ⟨l.getD j 0, ?_⟩⟩
    have := World.ownsRow.cellAt h j (by simp; omega)
    have h2 := U_get l j hj
    rw [h2] at this
    simpa [World.cell?, hh] using this
/-- Messages that may be spoilt. -/
structure Sp (w : World) (v : Value) (ds : List (Ms × Value)) : Prop where
  row : ∃ ao cap, v = .slice ao ds.length cap ∧ ds.length * 120 ≤ 140737488355328 ∧ (ds ≠ [] → ∃ g off cur, ao = some ⟨g, off, none⟩ ∧ Bk w g 40 cur ∧ off + ds.length * 13 ≤ cur.size ∧ ∀ i d, ds[i]? = some d → cur[off + i * 13 + 12]? = some d.2)
  each : ∀ d ∈ ds, d.1.body.length ≤ 140737488355328 ∧ ∃ ao cap, d.2 = .slice ao d.1.body.length cap ∧ (0 < d.1.body.length → ∃ b, ao = some ⟨b, 0, none⟩ ∧ By w b d.1.body.length)
theorem Rn.sp {w : World} {B : Nat} {v : Value} {ms : List Ms} {ds : List (Ms × Value)} (h : Rn w B v ms ds) (hl : ds.length * 120 ≤ 140737488355328) (hb : ∀ m ∈ ms, m.body.length ≤ 140737488355328) : Sp w v ds := by
  obtain ⟨ao, cap, rfl, h1, h2⟩ := h.row.form
  refine ⟨⟨ao, cap, rfl, hl, fun hne => ?_⟩, fun d hd => ⟨hb d.1 (by rw [← h.ms]; exact List.mem_map_of_mem hd), ?_⟩⟩
  · rcases h2 with ⟨rfl, rfl⟩ | ⟨g, off, cur, rfl, hB, hs, hc⟩
    · exact absurd (List.eq_nil_of_length_eq_zero (by omega)) hne
    · refine ⟨g, off, cur, rfl, hB, by omega, fun i d hd => ?_⟩
      have := hc _ _ (fm_get ds i d hd 12 d.2 rfl)
      rw [Nat.add_assoc]
      exact this
  · obtain ⟨a1, _, _⟩ := h.each d hd
    obtain ⟨ao, cap, e⟩ := a1.shape
    refine ⟨ao, cap, e, fun hp => ?_⟩
    obtain ⟨g, c, e2, _⟩ := a1.form hp
    rw [e] at e2
    cases e2
    exact ⟨g, rfl, a1.by (by rw [e]; rfl)⟩
theorem Sp.setb {w : World} {v : Value} {ds : List (Ms × Value)} (h : Sp w v ds) {b n : Nat} (hb : By w b n) (k : Nat) (x : Int) : Sp (w.setCell ⟨b, k, none⟩ (.int .u8 x)) v ds := by
  have hm := (Mod.refl (fun z => z = b) w).setCell ⟨b, k, none⟩ (.int .u8 x) (.inl rfl)
  obtain ⟨ao, cap, rfl, h1, h2⟩ := h.row
  refine ⟨⟨ao, cap, rfl, h1, fun hne => ?_⟩, fun d hd => ⟨(h.each d hd).1, ?_⟩⟩
  · obtain ⟨g, off, cur, rfl, hB, hs, hc⟩ := h2 hne
    exact ⟨g, off, cur, rfl, hB.mod hm (fun e => hb.ne hB e.symm), hs, hc⟩
  · obtain ⟨a, c, e, hB⟩ := (h.each d hd).2
    refine ⟨a, c, e, fun hp => ?_⟩
    obtain ⟨b', rfl, hB'⟩ := hB hp
    refine ⟨b', rfl, ?_⟩
    by_cases eb : b' = b
    · subst eb
      exact hB'.set k x
    · exact hB'.mod hm eb
theorem Sp.seti {w : World} {g off cap : Nat} {ds : List (Ms × Value)} {j : Nat} (hj : j < ds.length) (h : Sp w (.slice (some ⟨g, off, none⟩) ds.length cap) ds) (u : Value) : Sp (w.setCell ⟨g, off + j * 13 + 3, none⟩ u) (.slice (some ⟨g, off, none⟩) ds.length cap) ds := by
  have hm := (Mod.refl (fun z => z = g) w).setCell ⟨g, off + j * 13 + 3, none⟩ u (.inl rfl)
  have hne : ds ≠ [] := by rintro rfl; simp at hj
  obtain ⟨ao, cap', e, h1, h2⟩ := h.row
  cases e
  obtain ⟨g', off', cur, e, hB, hs, hc⟩ := h2 hne
  cases e
  refine ⟨⟨_, _, rfl, h1, fun _ => ⟨g, off, _, rfl, hB.set (off + j * 13 + 3) u, by simpa using hs, fun i d hd => ?_⟩⟩, fun d hd => ⟨(h.each d hd).1, ?_⟩⟩
  · rw [Array.getElem?_setIfInBounds, if_neg (by omega)]
    exact hc i d hd
  · obtain ⟨a, c, e, hB'⟩ := (h.each d hd).2
    refine ⟨a, c, e, fun hp => ?_⟩
    obtain ⟨b', rfl, hb'⟩ := hB' hp
    exact ⟨b', rfl, hb'.mod hm (hb'.ne hB)⟩
theorem Sp.drew {w : World} {v : Value} {ds : List (Ms × Value)} (h : Sp w v ds) : Sp w.drew v ds := by
  obtain ⟨ao, cap, rfl, h1, h2⟩ := h.row
  have hm := (Mod.refl (fun _ => False) w).drew
  refine ⟨⟨ao, cap, rfl, h1, fun hne => ?_⟩, fun d hd => ⟨(h.each d hd).1, ?_⟩⟩
  · obtain ⟨g, off, cur, rfl, hB, hs, hc⟩ := h2 hne
    exact ⟨g, off, cur, rfl, hB.mod hm (fun h => h), hs, hc⟩
  · obtain ⟨a, c, e, hB⟩ := (h.each d hd).2
    refine ⟨a, c, e, fun hp => ?_⟩
    obtain ⟨b', rfl, hB'⟩ := hB hp
    exact ⟨b', rfl, hB'.mod hm (fun h => h)⟩
/-- Which blocks are spoilt. -/
def Ss (v : Value) (ds : List (Ms × Value)) (b : Nat) : Prop := v.ownBlock = some b ∨ ∃ d ∈ ds, d.2.ownBlock = some b
set_option maxRecDepth 100000 in
set_option maxHeartbeats 2000000 in
theorem spoil_any (v : Value) (ds : List (Ms × Value)) (w : World) (h : Sp w v ds) : Calls Try.prog 13 #[v] w fun e w' => (∃ r, e = .returned r) ∧ Mod (Ss v ds) w w' := by
  obtain ⟨av, cv, rfl, hlen, hrow⟩ := h.row
  have hlen' : (ds.length : Int) ≤ 140737488355327 := by omega
  clear hrow
  go_enter Try.func13, Try.ntmps13
  go_wp2_with (fail)
  go_loopw [2, 3] (fun ci _ wr => ∃ (j : Nat), ci = .int .i64 (j : Int) ∧ j ≤ ds.length ∧ Sp wr (.slice av ds.length cv) ds ∧ Mod (Ss (.slice av ds.length cv) ds) w wr) (fun ci _ _ => ds.length - (intOf ci).toNat)
  case atStart => exact ⟨0, rfl, Nat.zero_le _, h, Mod.refl _ w⟩
  case round =>
  clear h
  obtain ⟨j, rfl, hj, hS, hMr⟩ := hrel
  obtain ⟨wk, ewk⟩ : ∃ wk, wk = wr := ⟨_, rfl⟩
  subst ewk
  by_cases hjn : j < ds.length
  · have hjn' : (j : Int) < (ds.length : Int) := by go_light; omega
    have hjb' : (j : Int) < 140737488355327 := by go_light; omega
    obtain ⟨d, hdj⟩ : ∃ d, ds[j]? = some d := ⟨ds[j], List.getElem?_eq_getElem hjn⟩
    have hdm := List.mem_of_getElem? hdj
    obtain ⟨hbl, ab, cb, eb, _⟩ := hS.each d hdm
    obtain ⟨ao0, cap0, e0, _, hrow⟩ := hS.row
    cases e0
    obtain ⟨g, off, cur, rfl, hB, hs, hc⟩ := hrow (by rintro rfl; simp at hjn)
    have hbl' : (d.1.body.length : Int) ≤ 140737488355328 := by go_light; omega
    obtain ⟨lb, elb⟩ : ∃ lb, lb = d.1.body.length := ⟨_, rfl⟩
    rw [← elb] at eb hbl'
    have HB : ∀ W, Sp W (.slice (some ⟨g, off, none⟩) ds.length cv) ds → W.cell? ⟨g, off + j * 13 + 12, none⟩ = some (.slice ab lb cb) ∧ (W.cell? ⟨g, off + j * 13 + 3, none⟩).isSome = true ∧ W.frozen? ⟨g, off + j * 13 + 3, none⟩ = false ∧ (0 < lb → ∃ b, ab = some ⟨b, 0, none⟩ ∧ By W b lb) := fun W hW => by
      obtain ⟨ao1, cap1, e1, _, hrow1⟩ := hW.row
      cases e1
      obtain ⟨g1, off1, cur1, e1, hB1, hs1, hc1⟩ := hrow1 (by rintro rfl; simp at hjn)
      cases e1
      refine ⟨by rw [hB1.cell, hc1 j d hdj, eb], by rw [hB1.cell, Array.getElem?_eq_getElem (by omega)]; rfl, hB1.frz _, fun hp => ?_⟩
      obtain ⟨_, a2, c2, e2, h2⟩ := hW.each d hdm
      rw [eb] at e2
      cases e2
      rw [elb] at hp
      obtain ⟨b, h3, h4⟩ := h2 hp
      exact ⟨b, h3, h4⟩
    have HSB : Hid (∀ b, ab = some ⟨b, 0, none⟩ → Ss (.slice (some ⟨g, off, none⟩) ds.length cv) ds b) := fun b hb => .inr ⟨d, hdm, by rw [eb, hb]; rfl⟩
    clear hB hs hc hrow hbl eb elb
    go_wp2_with (fail)
    go_loopw [3] (fun ck wr => ∃ (k : Nat), ck = .int .i64 (k : Int) ∧ k ≤ lb ∧ Sp wr (.slice (some ⟨g, off, none⟩) ds.length cv) ds ∧ Mod (Ss (.slice (some ⟨g, off, none⟩) ds.length cv) ds) w wr) (fun ck _ => lb - (intOf ck).toNat)
    case atStart => exact ⟨0, rfl, Nat.zero_le _, hS, hMr⟩
    case round =>
    clear hS hMr
    obtain ⟨k, rfl, hk, hS, hMr⟩ := hrel
    obtain ⟨wy, ewy⟩ : ∃ wy, wy = wr := ⟨_, rfl⟩
    subst ewy
    obtain ⟨c12, c3, f3, hby⟩ := HB wy hS
    by_cases hkn : k < lb
    · have hkn' : (k : Int) < (lb : Int) := by go_light; omega
      have hkb' : (k : Int) < 140737488355328 := by go_light; omega
      obtain ⟨b, rfl, hb⟩ := hby (by go_light; omega)
      obtain ⟨c, ck, fk⟩ := hb.cell hkn
      have HSet : ∀ x, Hid (Sp (wy.drew.setCell ⟨b, k, none⟩ (.int .u8 x)) (.slice (some ⟨g, off, none⟩) ds.length cv) ds ∧ Mod (Ss (.slice (some ⟨g, off, none⟩) ds.length cv) ds) w (wy.drew.setCell ⟨b, k, none⟩ (.int .u8 x))) := fun x => ⟨hS.drew.setb (hb.mod ((Mod.refl (fun _ => False) wy).drew) (fun h => h)) k x, hMr.drew.setCell _ _ (.inl (HSB.out b rfl))⟩
      clear hS hMr hb hby c3 f3 HB
      go_wp2_with (fail)
      go_region
      all_goals go_wp2_with (fail)
      all_goals go_roundw
      all_goals first
        | exact ⟨k + 1, by go_num, hkn, (HSet _).out.1, (HSet _).out.2⟩
        | (simp [intOf]; go_light; omega)
    · have ek : ¬ (k : Int) < (lb : Int) := by go_light; omega
      obtain ⟨y3, hy3⟩ := Option.isSome_iff_exists.1 c3
      have HN : Hid (Sp (wy.setCell ⟨g, off + j * 13 + 3, none⟩ (.int .i64 (-1))) (.slice (some ⟨g, off, none⟩) ds.length cv) ds ∧ Mod (Ss (.slice (some ⟨g, off, none⟩) ds.length cv) ds) w (wy.setCell ⟨g, off + j * 13 + 3, none⟩ (.int .i64 (-1)))) := ⟨hS.seti hjn _, hMr.setCell _ _ (.inl (.inl rfl))⟩
      clear hS hMr hby HB c3
      go_wp2_with (fail)
      go_roundw
      case rel => exact ⟨j + 1, by go_num, hjn, HN.out.1, HN.out.2⟩
      case measure => simp [intOf]; go_light; omega
  · have ej : ¬ (j : Int) < (ds.length : Int) := by go_light; omega
    go_wp2_with (fail)
    go_end0
    exact ⟨⟨_, rfl⟩, hMr⟩
end Go.Proofs.Ytcedlpjjldmpfaa
