/- For PieceBack: sixteen rows of messages and sixteen rows of payloads, in two arrays. No conditions. -/
import Derived.Test.YtifogbhlphofjaaXh
import Derived.Test.YtifogbhlphofjaaGw
namespace Go.Proofs.Ytifogbhlphofjaa
open Go.RowKit
/-- The cells of messages, one behind the other. -/
def fm : List (Ms × Value) → List Value
  | [] => []
  | d :: r => mcl d.1 d.2 ++ fm r
theorem fm_len : ∀ ds, (fm ds).length = ds.length * 13
  | [] => rfl
  | d :: r => by rw [fm, List.length_append, fm_len r, show (mcl d.1 d.2).length = 13 from rfl, List.length_cons]; omega
theorem fm_app : ∀ a b, fm (a ++ b) = fm a ++ fm b
  | [], _ => rfl
  | d :: r, b => by rw [List.cons_append, fm, fm, fm_app r b, List.append_assoc]
/-- A row of messages: its slice, what it holds, in which blocks. -/
structure Rm (w : World) (F : Nat → Prop) (v : Value) (ms : List Ms) (ds : List (Ms × Value)) : Prop where
  row : RG w 28 13 v ds.length (fm ds)
  ms : ds.map (·.1) = ms
  each : ∀ d ∈ ds, Own w d.2 d.1.body ∧ (∀ c ∈ d.1.body, 0 ≤ c ∧ c ≤ 255) ∧ (∀ b, d.2.ownBlock = some b → F b)
  new : ∀ b, v.ownBlock = some b → F b
/-- A row of payloads. -/
structure Rb (w : World) (F : Nat → Prop) (v : Value) (ps : List (List Int)) (us : List Value) : Prop where
  row : RG w 26 1 v us.length us
  len : us.length = ps.length
  each : ∀ (i : Nat) u p, us[i]? = some u → ps[i]? = some p → Own w u p ∧ (∀ c ∈ p, 0 ≤ c ∧ c ≤ 255) ∧ (∀ b, u.ownBlock = some b → F b)
  new : ∀ b, v.ownBlock = some b → F b
theorem Rm.mod {S F : Nat → Prop} {w w' : World} {v : Value} {ms : List Ms} {ds : List (Ms × Value)} (h : Rm w F v ms ds) (hm : Mod S w w') (hS : ∀ b, F b → ¬ S b) : Rm w' F v ms ds :=
  ⟨h.row.mod hm (fun g hg => hS g (h.new g hg)), h.ms, fun d hd => ⟨(h.each d hd).1.mod hm (fun g hg => hS g ((h.each d hd).2.2 g hg)), (h.each d hd).2⟩, h.new⟩
theorem Rb.mod {S F : Nat → Prop} {w w' : World} {v : Value} {ps : List (List Int)} {us : List Value} (h : Rb w F v ps us) (hm : Mod S w w') (hS : ∀ b, F b → ¬ S b) : Rb w' F v ps us :=
  ⟨h.row.mod hm (fun g hg => hS g (h.new g hg)), h.len, fun i u p hu hp => ⟨(h.each i u p hu hp).1.mod hm (fun g hg => hS g ((h.each i u p hu hp).2.2 g hg)), (h.each i u p hu hp).2⟩, h.new⟩
/-- Both arrays, at the blocks pa and wa; F: the blocks of all of it. -/
structure Pz (w : World) (pa wa : Nat) (F : Nat → Prop) (P : Nat → List Ms) (W : Nat → List (List Int)) (V U : Nat → Value) : Prop where
  pb : ∃ xs, Bk w pa 50 xs ∧ xs.size = 16 ∧ ∀ k, k < 16 → xs[k]? = some (V k)
  wb : ∃ ys, Bk w wa 52 ys ∧ ys.size = 16 ∧ ∀ k, k < 16 → ys[k]? = some (U k)
  ps : ∀ k, k < 16 → ∃ ds, Rm w F (V k) (P k) ds
  ws : ∀ k, k < 16 → ∃ us, Rb w F (U k) (W k) us
  papart : ∀ i k, i < 16 → k < 16 → i ≠ k → ∀ b, (V i).ownBlock = some b → (V k).ownBlock ≠ some b
  wapart : ∀ i k, i < 16 → k < 16 → i ≠ k → ∀ b, (U i).ownBlock = some b → (U k).ownBlock ≠ some b
  inp : F pa
  inw : F wa
  lt : ∀ b, F b → b < w.heap.size
theorem Pz.mod {S F : Nat → Prop} {w w' : World} {pa wa : Nat} {P : Nat → List Ms} {W : Nat → List (List Int)} {V U : Nat → Value} (h : Pz w pa wa F P W V U) (hm : Mod S w w') (hS : ∀ b, F b → ¬ S b) : Pz w' pa wa F P W V U := by
  obtain ⟨xs, hx, hxs, hxv⟩ := h.pb
  obtain ⟨ys, hy, hys, hyv⟩ := h.wb
  refine ⟨⟨xs, hx.mod hm (hS pa h.inp), hxs, hxv⟩, ⟨ys, hy.mod hm (hS wa h.inw), hys, hyv⟩, fun k hk => ?_, fun k hk => ?_, h.papart, h.wapart, h.inp, h.inw, fun b hb => Nat.lt_of_lt_of_le (h.lt b hb) hm.size⟩
  · obtain ⟨ds, hd⟩ := h.ps k hk
    exact ⟨ds, hd.mod hm hS⟩
  · obtain ⟨us, hu⟩ := h.ws k hk
    exact ⟨us, hu.mod hm hS⟩
/-- Where a sender's slices stand. -/
theorem Pz.cp {F : Nat → Prop} {w : World} {pa wa : Nat} {P : Nat → List Ms} {W : Nat → List (List Int)} {V U : Nat → Value} (h : Pz w pa wa F P W V U) {k : Nat} (hk : k < 16) : w.cell? ⟨pa, k, none⟩ = some (V k) ∧ w.frozen? ⟨pa, k, none⟩ = false := by
  obtain ⟨xs, hx, hxs, hxv⟩ := h.pb
  exact ⟨hx.cellv (hxv k hk), hx.frz k⟩
theorem Pz.cw {F : Nat → Prop} {w : World} {pa wa : Nat} {P : Nat → List Ms} {W : Nat → List (List Int)} {V U : Nat → Value} (h : Pz w pa wa F P W V U) {k : Nat} (hk : k < 16) : w.cell? ⟨wa, k, none⟩ = some (U k) ∧ w.frozen? ⟨wa, k, none⟩ = false := by
  obtain ⟨ys, hy, hys, hyv⟩ := h.wb
  exact ⟨hy.cellv (hyv k hk), hy.frz k⟩
/-- One place of a function changed. -/
def at1 {α : Type} (f : Nat → α) (k : Nat) (x : α) : Nat → α := fun i => if i = k then x else f i
/-- What turns is of none of a row's blocks, by their types. -/
theorem Rm.modK {S F F' : Nat → Prop} {w w' : World} {v : Value} {ms : List Ms} {ds : List (Ms × Value)} (h : Rm w F v ms ds) (hm : Mod S w w') (hv : ∀ b, v.ownBlock = some b → ¬ S b) (hS : ∀ b, S b → ∀ cur, w.heap[b]? ≠ some (.cells cur 5 (0, 0))) (hF : ∀ b, F b → F' b) : Rm w' F' v ms ds :=
  ⟨h.row.mod hm hv, h.ms, fun d hd => ⟨(h.each d hd).1.mod hm (fun g hg e => by
    obtain ⟨cur, hc⟩ := (h.each d hd).1.kind hg
    exact hS g e cur hc), (h.each d hd).2.1, fun b hb => hF b ((h.each d hd).2.2 b hb)⟩, fun b hb => hF b (h.new b hb)⟩
theorem Rb.modK {S F F' : Nat → Prop} {w w' : World} {v : Value} {ps : List (List Int)} {us : List Value} (h : Rb w F v ps us) (hm : Mod S w w') (hv : ∀ b, v.ownBlock = some b → ¬ S b) (hS : ∀ b, S b → ∀ cur, w.heap[b]? ≠ some (.cells cur 5 (0, 0))) (hF : ∀ b, F b → F' b) : Rb w' F' v ps us :=
  ⟨h.row.mod hm hv, h.len, fun i u p hu hp => ⟨(h.each i u p hu hp).1.mod hm (fun g hg e => by
    obtain ⟨cur, hc⟩ := (h.each i u p hu hp).1.kind hg
    exact hS g e cur hc), (h.each i u p hu hp).2.1, fun b hb => hF b ((h.each i u p hu hp).2.2 b hb)⟩, fun b hb => hF b (h.new b hb)⟩
/-- A row of messages is turned, and its slice is stored. -/
theorem Pz.setp {F F' : Nat → Prop} {w w' : World} {pa wa : Nat} {P : Nat → List Ms} {W : Nat → List (List Int)} {V U : Nat → Value} (h : Pz w pa wa F P W V U) {k : Nat} (hk : k < 16) {v' : Value} {ms' : List Ms} {ds' : List (Ms × Value)} (hm : Mod (fun b => (V k).ownBlock = some b) w w') (hr : Rm w' F' v' ms' ds') (hF : ∀ b, F b → F' b) (hlt : ∀ b, F' b → b < w'.heap.size) (hnb : ∀ b, v'.ownBlock = some b → (V k).ownBlock = some b ∨ w.heap.size ≤ b) :
    Pz (w'.setCell ⟨pa, k, none⟩ v') pa wa F' (at1 P k ms') W (at1 V k v') U ∧ Mod F w (w'.setCell ⟨pa, k, none⟩ v') := by
  obtain ⟨xs, hx, hxs, hxv⟩ := h.pb
  obtain ⟨ys, hy, hys, hyv⟩ := h.wb
  obtain ⟨dk, hdk⟩ := h.ps k hk
  have hkind : ∀ b, (V k).ownBlock = some b → ∃ cur, w.heap[b]? = some (.cells cur 28 (0, 0)) := fun b hb => hdk.row.kind hb
  have hx' := hx.mod hm (fun e => by
    obtain ⟨c, hc⟩ := hkind pa e
    rw [hx.at'] at hc
    simp at hc)
  have hy' := hy.mod hm (fun e => by
    obtain ⟨c, hc⟩ := hkind wa e
    rw [hy.at'] at hc
    simp at hc)
  have hS := (Mod.refl (fun b => b = pa) w').setCell ⟨pa, k, none⟩ v' (.inl rfl)
  have hnw : ¬ wa = pa := fun e => by
    have h1 := hy'.at'
    rw [e, hx'.at'] at h1
    simp at h1
  have hM : Mod F w (w'.setCell ⟨pa, k, none⟩ v') := (hm.mono (T := F) (fun b _ e => hdk.new b e)).trans hS (fun _ _ h => h) (fun b _ e => by rw [e]; exact h.inp)
  have byt : ∀ b, b = pa → ∀ cur, w'.heap[b]? ≠ some (.cells cur 5 (0, 0)) := fun b e cur hc => by
    rw [e, hx'.at'] at hc
    simp at hc
  have rowP : ∀ {v : Value} {ms : List Ms} {ds : List (Ms × Value)} {G : Nat → Prop}, Rm w' G v ms ds → Rm (w'.setCell ⟨pa, k, none⟩ v') G v ms ds := fun hr => hr.modK hS (fun b hb e => by
    obtain ⟨c, hc⟩ := hr.row.kind hb
    rw [e, hx'.at'] at hc
    simp at hc) byt (fun _ h => h)
  have rowW : ∀ {v : Value} {ps : List (List Int)} {us : List Value} {G : Nat → Prop}, Rb w' G v ps us → Rb (w'.setCell ⟨pa, k, none⟩ v') G v ps us := fun hr => hr.modK hS (fun b hb e => by
    obtain ⟨c, hc⟩ := hr.row.kind hb
    rw [e, hx'.at'] at hc
    simp at hc) byt (fun _ h => h)
  have byt2 : ∀ b, (V k).ownBlock = some b → ∀ cur, w.heap[b]? ≠ some (.cells cur 5 (0, 0)) := fun b hb cur hc => by
    obtain ⟨c, hc2⟩ := hkind b hb
    rw [hc2] at hc
    simp at hc
  refine ⟨⟨⟨_, hx'.set k v', by simp [hxs], fun i hi => ?_⟩, ⟨ys, hy'.mod hS hnw, hys, hyv⟩, fun i hi => ?_, fun i hi => ?_, fun i j hi hj hne b hb => ?_, h.wapart, hF _ h.inp, hF _ h.inw, fun b hb => Nat.lt_of_lt_of_le (hlt b hb) hS.size⟩, hM⟩
  · unfold at1
    rw [Array.getElem?_setIfInBounds]
    by_cases e : i = k
    · subst e
      rw [if_pos rfl, if_pos (by omega), if_pos rfl]
    · rw [if_neg (fun h => e h.symm), if_neg e]
      exact hxv i hi
  · unfold at1
    by_cases e : i = k
    · subst e
      rw [if_pos rfl, if_pos rfl]
      exact ⟨ds', rowP hr⟩
    · rw [if_neg e, if_neg e]
      obtain ⟨ds, hd⟩ := h.ps i hi
      exact ⟨ds, rowP (hd.modK hm (fun b hb e2 => h.papart i k hi hk e b hb e2) byt2 hF)⟩
  · obtain ⟨us, hu⟩ := h.ws i hi
    exact ⟨us, rowW (hu.modK hm (fun b hb e2 => by
      obtain ⟨c1, h1⟩ := hu.row.kind hb
      obtain ⟨c2, h2⟩ := hkind b e2
      rw [h1] at h2
      simp at h2) byt2 hF)⟩
  · have old : ∀ i, i < 16 → ∀ b, (V i).ownBlock = some b → b < w.heap.size := fun i hi b hb => by
      obtain ⟨ds, hd⟩ := h.ps i hi
      exact h.lt b (hd.new b hb)
    unfold at1 at hb ⊢
    by_cases e1 : i = k
    · rw [if_pos e1] at hb
      rw [if_neg (by omega)]
      rcases hnb b hb with h1 | h1
      · exact fun h2 => h.papart k j hk hj (by omega) b h1 h2
      · exact fun h2 => absurd (old j hj b h2) (Nat.not_lt.2 h1)
    · rw [if_neg e1] at hb
      by_cases e2 : j = k
      · rw [if_pos e2]
        intro h2
        rcases hnb b h2 with h1 | h1
        · exact h.papart i k hi hk e1 b hb h1
        · exact absurd (old i hi b hb) (Nat.not_lt.2 h1)
      · rw [if_neg e2]
        exact h.papart i j hi hj hne b hb
/-- A row of payloads is turned, and its slice is stored. -/
theorem Pz.setw {F F' : Nat → Prop} {w w' : World} {pa wa : Nat} {P : Nat → List Ms} {W : Nat → List (List Int)} {V U : Nat → Value} (h : Pz w pa wa F P W V U) {k : Nat} (hk : k < 16) {v' : Value} {ps' : List (List Int)} {us' : List Value} (hm : Mod (fun b => (U k).ownBlock = some b) w w') (hr : Rb w' F' v' ps' us') (hF : ∀ b, F b → F' b) (hlt : ∀ b, F' b → b < w'.heap.size) (hnb : ∀ b, v'.ownBlock = some b → (U k).ownBlock = some b ∨ w.heap.size ≤ b) :
    Pz (w'.setCell ⟨wa, k, none⟩ v') pa wa F' P (at1 W k ps') V (at1 U k v') ∧ Mod F w (w'.setCell ⟨wa, k, none⟩ v') := by
  obtain ⟨xs, hx, hxs, hxv⟩ := h.pb
  obtain ⟨ys, hy, hys, hyv⟩ := h.wb
  obtain ⟨uk, huk⟩ := h.ws k hk
  have hkind : ∀ b, (U k).ownBlock = some b → ∃ cur, w.heap[b]? = some (.cells cur 26 (0, 0)) := fun b hb => huk.row.kind hb
  have hx' := hx.mod hm (fun e => by
    obtain ⟨c, hc⟩ := hkind pa e
    rw [hx.at'] at hc
    simp at hc)
  have hy' := hy.mod hm (fun e => by
    obtain ⟨c, hc⟩ := hkind wa e
    rw [hy.at'] at hc
    simp at hc)
  have hS := (Mod.refl (fun b => b = wa) w').setCell ⟨wa, k, none⟩ v' (.inl rfl)
  have hnw : ¬ pa = wa := fun e => by
    have h1 := hy'.at'
    rw [← e, hx'.at'] at h1
    simp at h1
  have hM : Mod F w (w'.setCell ⟨wa, k, none⟩ v') := (hm.mono (T := F) (fun b _ e => huk.new b e)).trans hS (fun _ _ h => h) (fun b _ e => by rw [e]; exact h.inw)
  have byt : ∀ b, b = wa → ∀ cur, w'.heap[b]? ≠ some (.cells cur 5 (0, 0)) := fun b e cur hc => by
    rw [e, hy'.at'] at hc
    simp at hc
  have rowP : ∀ {v : Value} {ms : List Ms} {ds : List (Ms × Value)} {G : Nat → Prop}, Rm w' G v ms ds → Rm (w'.setCell ⟨wa, k, none⟩ v') G v ms ds := fun hr => hr.modK hS (fun b hb e => by
    obtain ⟨c, hc⟩ := hr.row.kind hb
    rw [e, hy'.at'] at hc
    simp at hc) byt (fun _ h => h)
  have rowW : ∀ {v : Value} {ps : List (List Int)} {us : List Value} {G : Nat → Prop}, Rb w' G v ps us → Rb (w'.setCell ⟨wa, k, none⟩ v') G v ps us := fun hr => hr.modK hS (fun b hb e => by
    obtain ⟨c, hc⟩ := hr.row.kind hb
    rw [e, hy'.at'] at hc
    simp at hc) byt (fun _ h => h)
  have byt2 : ∀ b, (U k).ownBlock = some b → ∀ cur, w.heap[b]? ≠ some (.cells cur 5 (0, 0)) := fun b hb cur hc => by
    obtain ⟨c, hc2⟩ := hkind b hb
    rw [hc2] at hc
    simp at hc
  refine ⟨⟨⟨xs, hx'.mod hS hnw, hxs, hxv⟩, ⟨_, hy'.set k v', by simp [hys], fun i hi => ?_⟩, fun i hi => ?_, fun i hi => ?_, h.papart, fun i j hi hj hne b hb => ?_, hF _ h.inp, hF _ h.inw, fun b hb => Nat.lt_of_lt_of_le (hlt b hb) hS.size⟩, hM⟩
  · unfold at1
    rw [Array.getElem?_setIfInBounds]
    by_cases e : i = k
    · subst e
      rw [if_pos rfl, if_pos (by omega), if_pos rfl]
    · rw [if_neg (fun h => e h.symm), if_neg e]
      exact hyv i hi
  · obtain ⟨ds, hd⟩ := h.ps i hi
    exact ⟨ds, rowP (hd.modK hm (fun b hb e2 => by
      obtain ⟨c1, h1⟩ := hd.row.kind hb
      obtain ⟨c2, h2⟩ := hkind b e2
      rw [h1] at h2
      simp at h2) byt2 hF)⟩
  · unfold at1
    by_cases e : i = k
    · subst e
      rw [if_pos rfl, if_pos rfl]
      exact ⟨us', rowW hr⟩
    · rw [if_neg e, if_neg e]
      obtain ⟨us, hu⟩ := h.ws i hi
      exact ⟨us, rowW (hu.modK hm (fun b hb e2 => h.wapart i k hi hk e b hb e2) byt2 hF)⟩
  · have old : ∀ i, i < 16 → ∀ b, (U i).ownBlock = some b → b < w.heap.size := fun i hi b hb => by
      obtain ⟨us, hu⟩ := h.ws i hi
      exact h.lt b (hu.new b hb)
    unfold at1 at hb ⊢
    by_cases e1 : i = k
    · rw [if_pos e1] at hb
      rw [if_neg (by omega)]
      rcases hnb b hb with h1 | h1
      · exact fun h2 => h.wapart k j hk hj (by omega) b h1 h2
      · exact fun h2 => absurd (old j hj b h2) (Nat.not_lt.2 h1)
    · rw [if_neg e1] at hb
      by_cases e2 : j = k
      · rw [if_pos e2]
        intro h2
        rcases hnb b h2 with h1 | h1
        · exact h.wapart i k hi hk e1 b hb h1
        · exact absurd (old i hi b hb) (Nat.not_lt.2 h1)
      · rw [if_neg e2]
        exact h.wapart i j hi hj hne b hb
theorem fm_inv : ∀ (ds : List (Ms × Value)) (j : Nat) (c : Value), (fm ds)[j]? = some c → ∃ d, ds[j / 13]? = some d ∧ (mcl d.1 d.2)[j % 13]? = some c
  | [], j, c, h => by simp [fm] at h
  | x :: r, j, c, h => by
    have hl : (mcl x.1 x.2).length = 13 := rfl
    rw [fm] at h
    by_cases hj : j < 13
    · rw [List.getElem?_append_left (by omega)] at h
      exact ⟨x, by rw [Nat.div_eq_of_lt hj]; rfl, by rw [Nat.mod_eq_of_lt hj]; exact h⟩
    · rw [List.getElem?_append_right (by omega), hl] at h
      obtain ⟨d, h1, h2⟩ := fm_inv r (j - 13) c h
      refine ⟨d, ?_, ?_⟩
      · rw [show j / 13 = (j - 13) / 13 + 1 by omega]
        simpa using h1
      · rw [show j % 13 = (j - 13) % 13 by omega]
        exact h2
/-- The parts that Split answers, as a row. -/
theorem Pa.rm {w : World} {G B : Nat} {m : Ms} {n : Nat} {pl : List Int} {V : Nat → Value} {Z : Array Value} (h : Pa w G B m n pl V Z n) (hG : B ≤ G) (hr : ∀ c ∈ pl, 0 ≤ c ∧ c ≤ 255) :
    Rm w (fun b => B ≤ b ∧ b < w.heap.size) (.slice (some ⟨G, 0, none⟩) n n) ((List.range n).map (prt m n pl)) ((List.range n).map fun i => (prt m n pl i, V i)) := by
  have hl : ((List.range n).map fun i => (prt m n pl i, V i)).length = n := by simp
  refine ⟨⟨by rw [fm_len], ⟨some ⟨G, 0, none⟩, n, by rw [hl], by rw [hl]; exact Nat.le_refl _, .inr ⟨G, 0, Z, rfl, h.bk, by rw [h.sz]; omega, fun j c hj => ?_⟩⟩⟩, by rw [List.map_map]; rfl, fun d hd => ?_, fun b hb => ?_⟩
  · obtain ⟨d, h1, h2⟩ := fm_inv _ j c hj
    rw [List.getElem?_map] at h1
    obtain ⟨i, hi, rfl⟩ := Option.map_eq_some_iff.1 h1
    have hin : j / 13 < n := by
      rcases Nat.lt_or_ge (j / 13) n with h' | h'
      · exact h'
      · rw [List.getElem?_eq_none (by simpa using h')] at hi; cases hi
    rw [List.getElem?_range hin] at hi
    cases hi
    have := h.cells (j / 13) hin (j % 13) c h2
    rw [show j / 13 * 13 + j % 13 = j by omega] at this
    rw [Nat.zero_add]
    exact this
  · obtain ⟨i, hi, rfl⟩ := List.mem_map.1 hd
    obtain ⟨a1, a2⟩ := h.own i (List.mem_range.1 hi)
    exact ⟨a1, chunk_rng hr i, fun b hb => ⟨a2 b hb, a1.lt b hb⟩⟩
  · simp only [Value.ownBlock, Option.some.injEq] at hb
    subst hb
    exact ⟨hG, h.bk.lt⟩
/-- A row, and another one behind it. -/
theorem Rm.app {w W w' : World} {F F2 : Nat → Prop} {v v' cv : Value} {ms ns : List Ms} {ds cs : List (Ms × Value)} {r : Nat} (h : Rm w F v ms ds) (hW : Mod (fun _ => False) w W) (hc : Rm W F2 cv ns cs) (hr : RG w' 28 13 v' r (fm ds ++ fm cs)) (er : r = ds.length + cs.length) (hm : Mod (fun k => v.ownBlock = some k) W w') : Rm w' (fun b => F b ∨ F2 b ∨ v'.ownBlock = some b) v' (ms ++ ns) (ds ++ cs) := by
  subst er
  have hk : ∀ b, v.ownBlock = some b → ∀ cur, W.heap[b]? ≠ some (.cells cur 5 (0, 0)) := fun b hb cur hc => by
    obtain ⟨c, h1⟩ := (h.row.mod hW (fun _ _ h => h)).kind hb
    rw [h1] at hc
    simp at hc
  have own : ∀ {u : Value} {l : List Int}, Own W u l → Own w' u l := fun ho => ho.mod hm (fun b hb e => by
    obtain ⟨c, h1⟩ := ho.kind hb
    exact hk b e c h1)
  refine ⟨by rw [fm_app, List.length_append]; exact hr, by rw [List.map_append, h.ms, hc.ms], fun d hd => ?_, fun b hb => .inr (.inr hb)⟩
  rcases List.mem_append.1 hd with hd | hd
  · obtain ⟨a1, a2, a3⟩ := h.each d hd
    exact ⟨own (a1.mod hW (fun _ _ h => h)), a2, fun b hb => .inl (a3 b hb)⟩
  · obtain ⟨a1, a2, a3⟩ := hc.each d hd
    exact ⟨own a1, a2, fun b hb => .inr (.inl (a3 b hb))⟩
/-- A row without its first one. -/
theorem Rm.tail {w : World} {F : Nat → Prop} {ao an : Option Addr} {cap : Nat} {m : Ms} {ms : List Ms} {d : Ms × Value} {ds : List (Ms × Value)} (h : Rm w F (.slice ao (ds.length + 1) cap) (m :: ms) (d :: ds)) (han : (if cap = 1 then ao else ao.map (·.add 13)) = an) : Rm w F (.slice an ds.length (cap - 1)) ms ds ∧ d.1 = m ∧ (∀ b, (Value.slice an ds.length (cap - 1)).ownBlock = some b → (Value.slice ao (ds.length + 1) cap).ownBlock = some b) := by
  have hms := h.ms
  simp only [List.map_cons, List.cons.injEq] at hms
  have hr := h.row
  rw [fm] at hr
  obtain ⟨h1, h2⟩ := RG.tail (ds := mcl d.1 d.2) rfl hr han
  exact ⟨⟨h1, hms.2, fun e he => h.each e (List.mem_cons_of_mem _ he), fun b hb => h.new b (h2 b hb)⟩, hms.1, h2⟩
theorem Rb.tail {w : World} {F : Nat → Prop} {ao an : Option Addr} {cap : Nat} {p : List Int} {ps : List (List Int)} {u : Value} {us : List Value} (h : Rb w F (.slice ao (us.length + 1) cap) (p :: ps) (u :: us)) (han : (if cap = 1 then ao else ao.map (·.add 1)) = an) : Rb w F (.slice an us.length (cap - 1)) ps us ∧ (∀ b, (Value.slice an us.length (cap - 1)).ownBlock = some b → (Value.slice ao (us.length + 1) cap).ownBlock = some b) := by
  have hr := h.row
  obtain ⟨h1, h2⟩ := RG.tail (ds := [u]) (cs := us) rfl hr han
  exact ⟨⟨h1, by have := h.len; simpa using this, fun i x y hx hy => h.each (i + 1) x y (by simpa using hx) (by simpa using hy), fun b hb => h.new b (h2 b hb)⟩, h2⟩
theorem Rb.app {w W w' : World} {F F2 : Nat → Prop} {v v' cv : Value} {ps : List (List Int)} {us : List Value} {p : List Int} {r : Nat} (h : Rb w F v ps us) (hW : Mod (fun _ => False) w W) (ho : Own W cv p) (hrg : ∀ c ∈ p, 0 ≤ c ∧ c ≤ 255) (hcF : ∀ b, cv.ownBlock = some b → F2 b) (hr : RG w' 26 1 v' r (us ++ [cv])) (er : r = us.length + 1) (hm : Mod (fun k => v.ownBlock = some k) W w') : Rb w' (fun b => F b ∨ F2 b ∨ v'.ownBlock = some b) v' (ps ++ [p]) (us ++ [cv]) := by
  subst er
  have hk : ∀ b, v.ownBlock = some b → ∀ cur, W.heap[b]? ≠ some (.cells cur 5 (0, 0)) := fun b hb cur hc => by
    obtain ⟨c, h1⟩ := (h.row.mod hW (fun _ _ h => h)).kind hb
    rw [h1] at hc
    simp at hc
  have own : ∀ {u : Value} {l : List Int}, Own W u l → Own w' u l := fun ho => ho.mod hm (fun b hb e => by
    obtain ⟨c, h1⟩ := ho.kind hb
    exact hk b e c h1)
  refine ⟨by rw [List.length_append]; exact hr, by rw [List.length_append, List.length_append, h.len]; rfl, fun i u q hu hq => ?_, fun b hb => .inr (.inr hb)⟩
  by_cases hi : i < us.length
  · rw [List.getElem?_append_left hi] at hu
    rw [List.getElem?_append_left (by rw [← h.len]; exact hi)] at hq
    obtain ⟨a1, a2, a3⟩ := h.each i u q hu hq
    exact ⟨own (a1.mod hW (fun _ _ h => h)), a2, fun b hb => .inl (a3 b hb)⟩
  · rw [List.getElem?_append_right (by omega)] at hu
    rw [List.getElem?_append_right (by rw [← h.len]; omega), ← h.len] at hq
    have h0 : i - us.length = 0 := by
      rcases Nat.eq_zero_or_pos (i - us.length) with h' | h'
      · exact h'
      · rw [List.getElem?_eq_none (by simp; omega)] at hu; cases hu
    rw [h0] at hu hq
    simp only [List.getElem?_cons_zero, Option.some.injEq] at hu hq
    subst hu
    subst hq
    exact ⟨own ho, hrg, fun b hb => .inr (.inl (hcF b hb))⟩
end Go.Proofs.Ytifogbhlphofjaa
