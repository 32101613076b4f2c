/- What PieceBack holds while it puts together: rows from whose front is taken, a joiner beside them, what is under way. Conditions: sizes that a slice has. -/
import Derived.Test.YtifogbhlphofjaaXi
import Derived.Test.YtifogbhlphofjaaXt
import Derived.Test.YtifogbhlphofjaaNxA
import Derived.Test.YtifogbhlphofjaaXd
namespace Go.Proofs.Ytifogbhlphofjaa
open Go.RowKit Go.Maps
theorem okT_prt {m : Ms} {pl : List Int} (h : isB m = true) (hl : pl.length ≤ 200) {t : Nat} (ht : t < pcn pl.length) : okT (prt m (pcn pl.length) pl t) = true := by
  obtain ⟨k, o, lf, i, p, ps, g, s, st, rs, rr, sq, l⟩ := m
  obtain ⟨rfl, rfl, rfl, rfl, rfl, rfl, rfl, rfl, h6⟩ := isB_true h
  obtain ⟨a1, a2, a3⟩ := chk_parts h6
  have hn5 : pcn pl.length ≤ 5 := by unfold pcn; omega
  have hc : (chunk pl t).length ≤ 48 := by simp [chunk]; omega
  have a2' : hn (prt ⟨1, o, lf, i, 0, 0, g, s, 0, 0, 0, 0, []⟩ (pcn pl.length) pl t) = true := a2
  unfold kd kd0 at a3
  simp only at a3
  rw [if_neg (by omega), if_pos trivial] at a3
  unfold tx at a3
  simp only [Bool.and_eq_true, decide_eq_true_eq] at a3
  have hk : kd (prt ⟨1, o, lf, i, 0, 0, g, s, 0, 0, 0, 0, []⟩ (pcn pl.length) pl t) = true := by
    unfold kd kd0
    rw [if_neg (by simp [prt]), if_pos (by simp [prt])]
    simp [tx, prt]
    exact ⟨⟨⟨⟨⟨decide_eq_true (by omega), decide_eq_true (by omega)⟩, ht⟩, decide_eq_true (by omega)⟩, decide_eq_true (by omega)⟩, decide_eq_true hc⟩
  unfold okT
  rw [chk_of (by simp only [prt]; omega) a2' hk]
  simp [prt]
/-- What is under way of a payload, t of its parts. -/
def pile (m : Ms) (pl : List Int) (t : Nat) : Pile := ⟨m.id, pcn pl.length, m.groups, m.safe, t, pl.take (t * 48)⟩
theorem take_chunk (pl : List Int) (t : Nat) : pl.take (t * 48) ++ chunk pl t = pl.take ((t + 1) * 48) := by
  unfold chunk
  rw [show (t + 1) * 48 = t * 48 + 48 by omega, List.take_add]
  congr 1
  by_cases e : t * 48 + 48 ≤ pl.length
  · rw [Nat.min_eq_left e, show t * 48 + 48 - t * 48 = 48 by omega]
  · rw [Nat.min_eq_right (by omega), List.take_of_length_le (by simp), List.take_of_length_le (by simp; omega)]
theorem take_all (pl : List Int) : pl.take (pcn pl.length * 48) = pl := List.take_of_length_le (by unfold pcn; omega)
/-- A part that goes on with what is under way: more of it, or the payload. -/
theorem put_prt {J : Sd → Option Pile} {m : Ms} {pl : List Int} (h : isB m = true) (hl : pl.length ≤ 200) {t : Nat} (ht : t < pcn pl.length) (hJ : t = 0 ∨ J (m.origin, m.life) = some (pile m pl t)) :
    pO J (prt m (pcn pl.length) pl t) = (if t + 1 = pcn pl.length then some pl else none) ∧ pE (prt m (pcn pl.length) pl t) = 0 ∧
      pJ J (prt m (pcn pl.length) pl t) = upd J (m.origin, m.life) (if t + 1 = pcn pl.length then none else some (pile m pl (t + 1))) := by
  have ho := okT_prt h hl ht
  have hz : z1 J (prt m (pcn pl.length) pl t) = pile m pl t := by
    unfold z1
    rcases hJ with rfl | hJ
    · rw [if_pos (by simp [prt])]
      simp [pile, prt]
    · by_cases e : t = 0
      · subst e
        rw [if_pos (by simp [prt])]
        simp [pile, prt]
      · rw [if_neg (by simp [prt]; omega)]
        show (J (m.origin, m.life)).getD p0 = _
        rw [hJ]
        rfl
  have hf : fit (pile m pl t) (prt m (pcn pl.length) pl t) = true := by simp [fit, pile, prt]
  have hb : (pile m pl t).l ++ (prt m (pcn pl.length) pl t).body = pl.take ((t + 1) * 48) := take_chunk pl t
  have hp : ((prt m (pcn pl.length) pl t).part + 1 = (prt m (pcn pl.length) pl t).parts) ↔ t + 1 = pcn pl.length := by simp only [prt]; omega
  unfold pO pE pJ aO aJ
  rw [if_pos ho, if_pos ho, if_pos ho, hz, hf, hb]
  by_cases e : t + 1 = pcn pl.length
  · have e' := hp.2 e
    refine ⟨?_, rfl, ?_⟩
    · rw [if_pos e, if_pos (by simp [e']), e, take_all pl]
    · rw [if_pos e, if_neg (by simp [e'])]
      rfl
  · have e' : ¬ _ := fun x => e (hp.1 x)
    refine ⟨?_, rfl, ?_⟩
    · rw [if_neg e, if_neg (by simp [e'])]
    · rw [if_neg e, if_pos (by simp [e'])]
      show upd J (m.origin, m.life) (some (more (pile m pl t) (prt m (pcn pl.length) pl t))) = _
      congr 2
      unfold more
      rw [hb]
      simp [pile]
/-- The parts of a payload. -/
def pts (x : Ms × List Int) : List Ms := (List.range (pcn x.2.length)).map (prt x.1 (pcn x.2.length) x.2)
theorem pts_drop (x : Ms × List Int) {t : Nat} (ht : t < pcn x.2.length) : (pts x).drop t = prt x.1 (pcn x.2.length) x.2 t :: (pts x).drop (t + 1) := by
  rw [List.drop_eq_getElem_cons (by simp [pts]; exact ht)]
  simp [pts]
theorem pts_all (x : Ms × List Int) : (pts x).drop (pcn x.2.length) = [] := List.drop_eq_nil_of_le (by simp [pts])
theorem pcn_pos (n : Nat) : 0 < pcn n := by unfold pcn; omega
/-- A payload that may be split, of the sender k. -/
def Gd (k : Sd) (x : Ms × List Int) : Prop := isB x.1 = true ∧ x.2.length ≤ 200 ∧ (x.1.origin, x.1.life) = k
/-- What is left of a sender's parts goes on with what is under way; what is wanted of it. -/
def Iv (k : Sd) (z : Option Pile) (P : List Ms) (W : List (List Int)) : Prop := ∃ Q : List (Ms × List Int), (∀ x ∈ Q, Gd k x) ∧
  ((P = Q.flatMap pts ∧ W = Q.map (·.2) ∧ z = none) ∨ (∃ x t, Gd k x ∧ 0 < t ∧ t < pcn x.2.length ∧ P = (pts x).drop t ++ Q.flatMap pts ∧ W = x.2 :: Q.map (·.2) ∧ z = some (pile x.1 x.2 t)))
theorem Iv.nil (k : Sd) : Iv k none [] [] := ⟨[], by simp, .inl ⟨rfl, rfl, rfl⟩⟩
theorem Iv.more {k : Sd} {P : List Ms} {W : List (List Int)} (h : ∃ Q : List (Ms × List Int), (∀ x ∈ Q, Gd k x) ∧ P = Q.flatMap pts ∧ W = Q.map (·.2)) {x : Ms × List Int} (hx : Gd k x) :
    ∃ Q : List (Ms × List Int), (∀ x ∈ Q, Gd k x) ∧ P ++ pts x = Q.flatMap pts ∧ W ++ [x.2] = Q.map (·.2) := by
  obtain ⟨Q, h1, rfl, rfl⟩ := h
  refine ⟨Q ++ [x], fun y hy => ?_, by simp, by simp⟩
  rcases List.mem_append.1 hy with h | h
  · exact h1 y h
  · rw [List.mem_singleton.1 h]; exact hx
theorem Iv.empty {k : Sd} {z : Option Pile} {W : List (List Int)} (h : Iv k z [] W) : z = none := by
  obtain ⟨Q, hQ, ⟨_, _, e⟩ | ⟨x, t, _, _, ht, e, _⟩⟩ := h
  · exact e
  · rw [pts_drop x ht] at e
    cases e
/-- The next part of a sender is put: what is told, and what is left. -/
theorem Iv.step {k : Sd} {J : Sd → Option Pile} {d : Ms} {P : List Ms} {W : List (List Int)} (h : Iv k (J k) (d :: P) W) :
    ∃ w0 W', W = w0 :: W' ∧ okT d = true ∧ (d.origin, d.life) = k ∧ ((d.part = d.parts - 1 ∧ pO J d = some w0 ∧ pJ J d = upd J k none ∧ Iv k none P W') ∨ (d.part ≠ d.parts - 1 ∧ pO J d = none ∧ ∃ z, pJ J d = upd J k (some z) ∧ Iv k (some z) P W)) := by
  obtain ⟨x, t, Q, hQ, hx, ht, eP, eW, hz⟩ : ∃ (x : Ms × List Int) (t : Nat) (Q : List (Ms × List Int)), (∀ y ∈ Q, Gd k y) ∧ Gd k x ∧ t < pcn x.2.length ∧ d :: P = (pts x).drop t ++ Q.flatMap pts ∧ W = x.2 :: Q.map (·.2) ∧ (t = 0 ∨ J k = some (pile x.1 x.2 t)) := by
    obtain ⟨Q, hQ, ⟨e1, e2, e3⟩ | ⟨x, t, hx, _, ht, e1, e2, e3⟩⟩ := h
    · cases Q with
      | nil => simp at e1
      | cons x Q => exact ⟨x, 0, Q, fun y hy => hQ y (by simp [hy]), hQ x (by simp), pcn_pos _, by simpa using e1, by simpa using e2, .inl rfl⟩
    · exact ⟨x, t, Q, hQ, hx, ht, e1, e2, .inr e3⟩
  rw [pts_drop x ht, List.cons_append] at eP
  simp only [List.cons.injEq] at eP
  obtain ⟨rfl, rfl⟩ := eP
  obtain ⟨g1, g2, g3⟩ := hx
  obtain ⟨q1, _, q3⟩ := put_prt (J := J) g1 g2 ht (by rw [g3]; exact hz)
  rw [g3] at q3
  refine ⟨x.2, Q.map (·.2), eW, okT_prt g1 g2 ht, g3, ?_⟩
  have hp : ((prt x.1 (pcn x.2.length) x.2 t).part = (prt x.1 (pcn x.2.length) x.2 t).parts - 1) ↔ t + 1 = pcn x.2.length := by simp only [prt]; omega
  by_cases e : t + 1 = pcn x.2.length
  · rw [if_pos e] at q1 q3
    refine .inl ⟨hp.2 e, q1, q3, Q, hQ, .inl ⟨?_, rfl, rfl⟩⟩
    rw [e, pts_all]
    rfl
  · rw [if_neg e] at q1 q3
    exact .inr ⟨fun h => e (hp.1 h), q1, _, q3, Q, hQ, .inr ⟨x, t + 1, ⟨g1, g2, g3⟩, by omega, by omega, rfl, eW, rfl⟩⟩
end Go.Proofs.Ytifogbhlphofjaa
namespace Go.Proofs.Ytifogbhlphofjaa
open Go.RowKit
theorem infoMy : (Try.prog.info? 28).map (fun i => (i.zero, i.size, i.bytes)) = some (some (.agg #[.int .i64 0, .int .i64 0, .int .i64 0, .int .i64 0, .int .i64 0, .int .i64 0, .int .i64 0, .bool false, .int .i64 0, .int .i64 0, .int .i64 0, .int .i64 0, .slice none 0 0]), 13, 120) := by kernel_rfl
theorem infoBy : (Try.prog.info? 26).map (fun i => (i.zero, i.size, i.bytes)) = some (some (.slice none 0 0), 1, 24) := by kernel_rfl
theorem elM : El 31 28 13 120 := ⟨Try.underlying31, by
  cases h : Try.prog.info? 28 with
  | none => have := infoMy; rw [h] at this; cases this
  | some i =>
    have := infoMy
    rw [h] at this
    simp at this
    exact ⟨i, _, rfl, this.1, this.2.1, this.2.2, rfl⟩⟩
theorem elB : El 51 26 1 24 := ⟨Try.underlying51, by
  cases h : Try.prog.info? 26 with
  | none => have := infoBy; rw [h] at this; cases this
  | some i =>
    have := infoBy
    rw [h] at this
    simp at this
    exact ⟨i, _, rfl, this.1, this.2.1, this.2.2, rfl⟩⟩
/-- A row of messages has grown. -/
theorem Pz.addp {F : Nat → Prop} {w w' : World} {pa wa B : Nat} {P : Nat → List Ms} {W : Nat → List (List Int)} {V U : Nat → Value} (h : Pz w pa wa F P W V U) {k : Nat} (hk : k < 16) {cv v' : Value} {ns : List Ms} {cs ds : List (Ms × Value)} {r : Nat} (hc : Rm w (fun b => B ≤ b ∧ b < w.heap.size) cv ns cs) (hR : Rm w F (V k) (P k) ds) (hr : RG w' 28 13 v' r (fm ds ++ fm cs)) (er : r = ds.length + cs.length) (hm : Mod (fun b => (V k).ownBlock = some b) w w') (hf : Fr w (V k) v') (hB : B ≤ w.heap.size) :
    ∃ F', Pz (w'.setCell ⟨pa, k, none⟩ v') pa wa F' (at1 P k (P k ++ ns)) W (at1 V k v') U ∧ Mod F w (w'.setCell ⟨pa, k, none⟩ v') ∧ ∀ b, F' b → F b ∨ B ≤ b := by
  have h1 := Rm.app hR (Mod.refl (fun _ => False) w) hc hr er hm
  obtain ⟨h2, h3⟩ := h.setp hk hm h1 (fun b hb => .inl hb) (fun b hb => by
    have hs := hm.size
    rcases hb with hb | hb | hb
    · have := h.lt b hb; omega
    · omega
    · exact hr.lt b hb) hf
  refine ⟨_, h2, h3, fun b hb => ?_⟩
  rcases hb with hb | hb | hb
  · exact .inl hb
  · exact .inr hb.1
  · rcases hf b hb with h4 | h4
    · exact .inl (hR.new b h4)
    · exact .inr (by omega)
/-- A row of payloads has grown. -/
theorem Pz.addw {F : Nat → Prop} {w0 w w' : World} {pa wa : Nat} {P : Nat → List Ms} {W : Nat → List (List Int)} {V U : Nat → Value} (h0 : Pz w0 pa wa F P W V U) (hW : Mod (fun _ => False) w0 w) {k : Nat} (hk : k < 16) {cv v' : Value} {p : List Int} {us : List Value} {r : Nat} (ho : Own w cv p) (hrg : ∀ c ∈ p, 0 ≤ c ∧ c ≤ 255) (hn : ∀ b, cv.ownBlock = some b → w0.heap.size ≤ b) (hR : Rb w0 F (U k) (W k) us) (hr : RG w' 26 1 v' r (us ++ [cv])) (er : r = us.length + 1) (hm : Mod (fun b => (U k).ownBlock = some b) w w') (hf : Fr w (U k) v') :
    ∃ F', Pz (w'.setCell ⟨wa, k, none⟩ v') pa wa F' P (at1 W k (W k ++ [p])) V (at1 U k v') ∧ Mod F w (w'.setCell ⟨wa, k, none⟩ v') ∧ ∀ b, F' b → F b ∨ w0.heap.size ≤ b := by
  have h := h0.mod hW (fun _ _ h => h)
  have h1 := Rb.app (F2 := fun b => w0.heap.size ≤ b ∧ b < w.heap.size) hR hW ho hrg (fun b hb => ⟨hn b hb, ho.lt b hb⟩) hr er hm
  obtain ⟨h2, h3⟩ := h.setw hk hm h1 (fun b hb => .inl hb) (fun b hb => by
    have hs := hm.size
    have hs2 := hW.size
    rcases hb with hb | hb | hb
    · have := h0.lt b hb; omega
    · omega
    · exact hr.lt b hb) hf
  refine ⟨_, h2, h3, fun b hb => ?_⟩
  rcases hb with hb | hb | hb
  · exact .inl hb
  · exact .inr hb.1
  · have hs2 := hW.size
    rcases hf b hb with h4 | h4
    · exact .inl (hR.new b h4)
    · exact .inr (by omega)
/-- The sender of a place. -/
def sd (k : Nat) : Sd := (1 + ((k % 8 : Nat) : Int), 1 + ((k / 8 : Nat) : Int))
/-- What was split so far. -/
def Sf (P : Nat → List Ms) (W : Nat → List (List Int)) (j : Nat) : Prop := ∀ k, k < 16 → (P k).length ≤ 5 * j ∧ (W k).length ≤ j ∧ ∃ Q : List (Ms × List Int), (∀ x ∈ Q, Gd (sd k) x) ∧ P k = Q.flatMap pts ∧ W k = Q.map (·.2)
theorem at1_same {α : Type} (f : Nat → α) (k : Nat) (x : α) : at1 f k x k = x := by simp [at1]
theorem at1_other {α : Type} (f : Nat → α) {k i : Nat} (x : α) (h : i ≠ k) : at1 f k x i = f i := by simp [at1, h]
theorem pcn_le (n : Nat) (h : n ≤ 200) : pcn n ≤ 5 := by unfold pcn; omega
theorem pts_len (x : Ms × List Int) : (pts x).length = pcn x.2.length := by simp [pts]
theorem Sf.more {P : Nat → List Ms} {W : Nat → List (List Int)} {j : Nat} (h : Sf P W j) {k : Nat} (hk : k < 16) {x : Ms × List Int} (hx : Gd (sd k) x) : Sf (at1 P k (P k ++ pts x)) (at1 W k (W k ++ [x.2])) (j + 1) := by
  intro i hi
  by_cases e : i = k
  · subst e
    obtain ⟨h1, h2, h3⟩ := h i hi
    rw [at1_same, at1_same]
    refine ⟨?_, ?_, Iv.more h3 hx⟩
    · rw [List.length_append, pts_len]
      have := pcn_le x.2.length hx.2.1
      omega
    · simp
      omega
  · obtain ⟨h1, h2, h3⟩ := h i hi
    rw [at1_other P _ e, at1_other W _ e]
    exact ⟨by omega, by omega, h3⟩
theorem isB_tx (o lf i g : Int) (s : Bool) (ho : 1 ≤ o ∧ o ≤ 8) (hl : 1 ≤ lf ∧ lf ≤ 2) (hi : 0 ≤ i ∧ i ≤ 40) (hg : 1 ≤ g ∧ g ≤ 255) : isB ⟨1, o, lf, i, 0, 0, g, s, 0, 0, 0, 0, []⟩ = true := by
  have h1 : hn ⟨1, o, lf, i, 0, 1, g, s, 0, 0, 0, 0, []⟩ = true := by
    have e1 : nd o = true := by unfold nd; simp; omega
    have e2 : nm lf = true := by unfold nm; simp; omega
    have e3 : nm i = true := by unfold nm; simp; omega
    have e4 : (ck 0 0 0 0 == 0) = true := by decide
    unfold hn
    simp only [e1, e2, e3, e4, Bool.and_eq_true, decide_eq_true_eq]
    exact ⟨⟨⟨⟨⟨trivial, trivial⟩, trivial⟩, by omega⟩, by omega⟩, trivial⟩
  have h2 : kd ⟨1, o, lf, i, 0, 1, g, s, 0, 0, 0, 0, []⟩ = true := by
    unfold kd kd0
    rw [if_neg (by simp), if_pos rfl]
    unfold tx
    simp only [Bool.and_eq_true, decide_eq_true_eq]
    refine ⟨⟨⟨⟨⟨⟨?_, ?_⟩, ?_⟩, ?_⟩, ?_⟩, ?_⟩, ?_⟩ <;> first | omega | (simp)
  have h3 := chk_of (m := ⟨1, o, lf, i, 0, 1, g, s, 0, 0, 0, 0, []⟩) (by simp) h1 h2
  unfold isB okT
  simp [h3]
/-- The first bytes of a slice. -/
theorem Sl.first {w : World} {ao : Option Addr} {cap n : Nat} {l : List Int} (h : Sl w (.slice ao l.length cap) l) (hn : n ≤ l.length) : Sl w (.slice ao n cap) (l.take n) := by
  obtain ⟨ao', cap', e, h1, h2, h3, h4⟩ := h.form
  simp only [Value.slice.injEq, true_and] at e
  obtain ⟨rfl, rfl⟩ := e
  by_cases hl : l = []
  · subst hl
    obtain rfl : n = 0 := by simpa using hn
    exact h
  · obtain ⟨b, off, rfl, _⟩ := h4 hl
    exact h.take n hn
theorem fm_one : ∀ {ds : List (Ms × Value)}, (∀ d ∈ ds, ∃ ao n c, d.2 = .slice ao n c) → ∀ c ∈ fm ds, c.oneCell' = true
  | [], _, c, hc => by simp [fm] at hc
  | d :: r, h, c, hc => by
    rw [fm, List.mem_append] at hc
    rcases hc with hc | hc
    · obtain ⟨ao, n, cp, e⟩ := h d (List.mem_cons_self ..)
      rw [e] at hc
      simp only [mcl, List.mem_cons, List.not_mem_nil, or_false] at hc
      rcases hc with rfl | rfl | rfl | rfl | rfl | rfl | rfl | rfl | rfl | rfl | rfl | rfl | rfl <;> rfl
    · exact fm_one (fun x hx => h x (List.mem_cons_of_mem _ hx)) c hc
theorem Rm.slices {w : World} {F : Nat → Prop} {v : Value} {ms : List Ms} {ds : List (Ms × Value)} (h : Rm w F v ms ds) : ∀ d ∈ ds, ∃ ao n c, d.2 = .slice ao n c := fun d hd => by
  obtain ⟨ao, c, e⟩ := (h.each d hd).1.shape
  exact ⟨ao, _, c, e⟩
theorem Rm.len {w : World} {F : Nat → Prop} {v : Value} {ms : List Ms} {ds : List (Ms × Value)} (h : Rm w F v ms ds) : ds.length = ms.length := by rw [← h.ms, List.length_map]
theorem Bk.ne_row {w : World} {p : Nat} {t et : TypeId} {sz n : Nat} {xs : Array Value} {v : Value} {cs : List Value} (h : Bk w p t xs) (ht : t ≠ et) (hr : RG w et sz v n cs) : v.ownBlock ≠ some p := fun e => by
  obtain ⟨cur, hc⟩ := hr.kind e
  rw [h.at'] at hc
  simp at hc
  exact ht hc.2
/-- What holds at a round's start of the first loop. -/
structure Lp (w wr : World) (pa wa j : Nat) : Prop where
  ex : ∃ F P W V U, Pz wr pa wa F P W V U ∧ Sf P W j ∧ (∀ b, F b → w.heap.size ≤ b) ∧ Mod (fun _ => False) w wr
/-- A message laid in a block. -/
structure C9 (w0 wx : World) (v : Value) (xs : Array Value) : Prop where
  ex : ∃ mb, v = .pointer (some ⟨mb, 0, none⟩) ∧ Bk wx mb 28 xs ∧ Mod (fun _ => False) w0 wx
end Go.Proofs.Ytifogbhlphofjaa
namespace Go.Proofs.Ytifogbhlphofjaa
open Go.RowKit Go.Maps
set_option maxRecDepth 100000 in
/-- Put, what is told as one slice. -/
theorem Put_u {w : World} {q : Nat} {X : Nat → Prop} {J : Sd → Option Pile} {N : Nat} (k o lf i p ps g : Int) (s : Bool) (st rs rr sq : Int) (ao : Option Addr) (cap : Nat) (l : List Int) (h : Jn w q X J N) (hok : OkJ J) (hs : Sl w (.slice ao l.length cap) l)
    (hN : N < 140737488355328) (hsX : l ≠ [] → ∀ b, (Value.slice ao l.length cap).ownBlock = some b → ¬ X b) :
    Calls Try.prog 18 #[.pointer (some ⟨q, 0, none⟩), .agg #[.int .i64 k, .int .i64 o, .int .i64 lf, .int .i64 i, .int .i64 p, .int .i64 ps, .int .i64 g, .bool s, .int .i64 st, .int .i64 rs, .int .i64 rr, .int .i64 sq, .slice ao l.length cap]] w fun e w' => ∃ X' N' ax cx, e = .returned (.tuple #[.slice ax ((pO J ⟨k, o, lf, i, p, ps, g, s, st, rs, rr, sq, l⟩).getD []).length cx, .bool (pO J ⟨k, o, lf, i, p, ps, g, s, st, rs, rr, sq, l⟩).isSome, .int .i64 (pE ⟨k, o, lf, i, p, ps, g, s, st, rs, rr, sq, l⟩)]) ∧ Jn w' q X' (pJ J ⟨k, o, lf, i, p, ps, g, s, st, rs, rr, sq, l⟩) N' ∧ N' ≤ N + 1 ∧ Gone w X X' ∧ Mod X w w' ∧
      Own w' (.slice ax ((pO J ⟨k, o, lf, i, p, ps, g, s, st, rs, rr, sq, l⟩).getD []).length cx) ((pO J ⟨k, o, lf, i, p, ps, g, s, st, rs, rr, sq, l⟩).getD []) ∧ (∀ c ∈ (pO J ⟨k, o, lf, i, p, ps, g, s, st, rs, rr, sq, l⟩).getD [], 0 ≤ c ∧ c ≤ 255) ∧ (∀ b, (Value.slice ax ((pO J ⟨k, o, lf, i, p, ps, g, s, st, rs, rr, sq, l⟩).getD []).length cx).ownBlock = some b → (X b ∨ w.heap.size ≤ b) ∧ ¬ X' b) := by
  refine (Put_any k o lf i p ps g s st rs rr sq ao cap l h hok hs hN hsX).mono ?_
  rintro e w' ⟨X', N', hj, hn, hg, hm, ⟨hO, rfl⟩ | ⟨L, u, hO, rfl, hu, hr, hb⟩⟩
  · rw [hO]
    exact ⟨X', N', none, 0, rfl, hj, hn, hg, hm, Own.nil _, by simp, by simp [Value.ownBlock]⟩
  · rw [hO]
    obtain ⟨ax, cx, e⟩ := hu.shape
    subst e
    exact ⟨X', N', ax, cx, rfl, hj, hn, hg, hm, hu, hr, hb⟩
theorem wpList_val {ops : Array Oper} {rest : List Oper} {op : Oper} {a : Act} {w w' : World} {Q : Exit → Act → World → Prop} {v : Value} (hw : Region.wanted op (yielded ops a.tmps) = true) (hr : (execOp a.eval op).run Try.prog w = .ok (.value v) w')
    (h : wpList Try.prog ops Q rest (a.put op.dst v) w') : wpList Try.prog ops Q (op :: rest) a w := by
  refine wpList_step fun K hK => ?_
  rw [if_pos hw]
  unfold Oper.wp
  rw [hr]
  exact hK _ _ h
theorem sd_inj {i k : Nat} (h : sd i = sd k) : i = k := by
  unfold sd at h
  simp only [Prod.mk.injEq] at h
  omega
/-- What is under way, and what is left of each sender. -/
structure Pq (J : Sd → Option Pile) (P : Nat → List Ms) (W : Nat → List (List Int)) : Prop where
  iv : ∀ k, k < 16 → Iv (sd k) (J (sd k)) (P k) (W k)
  no : ∀ s, (∀ k, k < 16 → s ≠ sd k) → J s = none
  ok : OkJ J
theorem Pq.go {J : Sd → Option Pile} {P P' : Nat → List Ms} {W W' : Nat → List (List Int)} {k : Nat} {d : Ms} {z : Option Pile} (h : Pq J P W) (hk : k < 16) (hJ : pJ J d = upd J (sd k) z) (hi : Iv (sd k) z (P' k) (W' k)) (hP : ∀ i, i ≠ k → P' i = P i) (hW : ∀ i, i ≠ k → W' i = W i) : Pq (pJ J d) P' W' := by
  refine ⟨fun i hi' => ?_, fun s hs => ?_, h.ok.put d⟩
  · rw [hJ]
    by_cases e : i = k
    · subst e
      rw [upd_same]
      exact hi
    · rw [upd_other _ _ (fun e' => e (sd_inj e')), hP i e, hW i e]
      exact h.iv i hi'
  · rw [hJ, upd_other _ _ (hs k hk)]
    exact h.no s hs
theorem Pq.step {J : Sd → Option Pile} {P : Nat → List Ms} {W : Nat → List (List Int)} {k : Nat} {d : Ms} {r : List Ms} (h : Pq J P W) (hk : k < 16) (hP : P k = d :: r) :
    ∃ p0 W', W k = p0 :: W' ∧ okT d = true ∧ ((d.part = d.parts - 1 ∧ pO J d = some p0 ∧ Pq (pJ J d) (at1 P k r) (at1 W k W')) ∨ (d.part ≠ d.parts - 1 ∧ pO J d = none ∧ Pq (pJ J d) (at1 P k r) W)) := by
  have hi := h.iv k hk
  rw [hP] at hi
  obtain ⟨p0, W', h1, h2, h3, h4⟩ := hi.step
  refine ⟨p0, W', h1, h2, ?_⟩
  rcases h4 with ⟨a1, a2, a3, a4⟩ | ⟨a1, a2, z, a3, a4⟩
  · exact .inl ⟨a1, a2, h.go hk a3 (by rw [at1_same, at1_same]; exact a4) (fun i e => at1_other P _ e) (fun i e => at1_other W _ e)⟩
  · exact .inr ⟨a1, a2, h.go hk a3 (by rw [at1_same]; exact a4) (fun i e => at1_other P _ e) (fun i _ => rfl)⟩
theorem Pq.start {P : Nat → List Ms} {W : Nat → List (List Int)} {j : Nat} (h : Sf P W j) : Pq (fun _ => none) P W :=
  ⟨fun k hk => by
    obtain ⟨_, _, Q, h1, h2, h3⟩ := h k hk
    exact ⟨Q, h1, .inl ⟨h2, h3, rfl⟩⟩, fun _ _ => rfl, OkJ.zero⟩
theorem Pq.none {J : Sd → Option Pile} {P : Nat → List Ms} {W : Nat → List (List Int)} (h : Pq J P W) (hP : ∀ k, k < 16 → P k = []) : J = fun _ => none := by
  funext s
  by_cases hs : ∃ k, k < 16 ∧ s = sd k
  · obtain ⟨k, hk, rfl⟩ := hs
    have hi := h.iv k hk
    rw [hP k hk] at hi
    exact hi.empty
  · exact h.no s fun k hk e => hs ⟨k, hk, e⟩
/-- How many parts are left. -/
def tt (P : Nat → List Ms) : Nat := (P 0).length + (P 1).length + (P 2).length + (P 3).length + (P 4).length + (P 5).length + (P 6).length + (P 7).length + (P 8).length + (P 9).length + (P 10).length + (P 11).length + (P 12).length + (P 13).length + (P 14).length + (P 15).length
theorem tt_cut {P : Nat → List Ms} {k : Nat} {d : Ms} {r : List Ms} (hk : k < 16) (h : P k = d :: r) : tt (at1 P k r) + 1 = tt P := by
  have hc : k = 0 ∨ k = 1 ∨ k = 2 ∨ k = 3 ∨ k = 4 ∨ k = 5 ∨ k = 6 ∨ k = 7 ∨ k = 8 ∨ k = 9 ∨ k = 10 ∨ k = 11 ∨ k = 12 ∨ k = 13 ∨ k = 14 ∨ k = 15 := by omega
  rcases hc with rfl | rfl | rfl | rfl | rfl | rfl | rfl | rfl | rfl | rfl | rfl | rfl | rfl | rfl | rfl | rfl <;> (simp [tt, at1, h]; omega)
theorem tt_le {P : Nat → List Ms} {W : Nat → List (List Int)} (h : Sf P W 40) : tt P ≤ 3200 := by
  have g : ∀ k, k < 16 → (P k).length ≤ 200 := fun k hk => by have := (h k hk).1; omega
  have g0 := g 0 (by omega)
  have g1 := g 1 (by omega)
  have g2 := g 2 (by omega)
  have g3 := g 3 (by omega)
  have g4 := g 4 (by omega)
  have g5 := g 5 (by omega)
  have g6 := g 6 (by omega)
  have g7 := g 7 (by omega)
  have g8 := g 8 (by omega)
  have g9 := g 9 (by omega)
  have g10 := g 10 (by omega)
  have g11 := g 11 (by omega)
  have g12 := g 12 (by omega)
  have g13 := g 13 (by omega)
  have g14 := g 14 (by omega)
  have g15 := g 15 (by omega)
  unfold tt
  omega
theorem Sf.mono {P : Nat → List Ms} {W : Nat → List (List Int)} {j j' : Nat} (h : Sf P W j) (hj : j ≤ j') : Sf P W j' := fun k hk => by
  obtain ⟨h1, h2, h3⟩ := h k hk
  exact ⟨by omega, by omega, h3⟩
theorem Lp.mono {w wr : World} {pa wa j j' : Nat} (h : Lp w wr pa wa j) (hj : j ≤ j') : Lp w wr pa wa j' := by
  obtain ⟨F, P, W, V, U, h1, h2, h3, h4⟩ := h.ex
  exact ⟨F, P, W, V, U, h1, h2.mono hj, h3, h4⟩
/-- Both arrays and the joiner, side by side. -/
structure Sy (w wr : World) (pa wa q : Nat) (F : Nat → Prop) (P : Nat → List Ms) (W : Nat → List (List Int)) (V U : Nat → Value) (X : Nat → Prop) (J : Sd → Option Pile) (N : Nat) : Prop where
  pz : Pz wr pa wa F P W V U
  jn : Jn wr q X J N
  sep : ∀ b, F b → ¬ X b
  fn : ∀ b, F b → w.heap.size ≤ b
  xn : ∀ b, X b → w.heap.size ≤ b
  mod : Mod (fun _ => False) w wr
theorem Sy.keep {w wr : World} {pa wa q : Nat} {F : Nat → Prop} {P : Nat → List Ms} {W : Nat → List (List Int)} {V U : Nat → Value} {X : Nat → Prop} {J : Sd → Option Pile} {N : Nat} (h : Sy w wr pa wa q F P W V U X J N) {w' : World} (hm : Mod (fun _ => False) wr w') : Sy w w' pa wa q F P W V U X J N :=
  ⟨h.pz.mod hm (fun _ _ h => h), h.jn.mod hm (fun _ _ h => h), h.sep, h.fn, h.xn, h.mod.trans hm (fun _ _ h => h) (fun _ _ h => h)⟩
theorem Sy.put {w wr : World} {pa wa q : Nat} {F : Nat → Prop} {P : Nat → List Ms} {W : Nat → List (List Int)} {V U : Nat → Value} {X : Nat → Prop} {J : Sd → Option Pile} {N : Nat} (h : Sy w wr pa wa q F P W V U X J N) {w' : World} {X' : Nat → Prop} {J' : Sd → Option Pile} {N' : Nat} (hm : Mod X wr w') (hg : Gone wr X X') (hj : Jn w' q X' J' N') : Sy w w' pa wa q F P W V U X' J' N' :=
  ⟨h.pz.mod hm h.sep, hj, fun b hb hx => by
    rcases hg b hx with h1 | h1
    · exact h.sep b hb h1
    · have := h.pz.lt b hb; omega, h.fn, fun b hx => by
    have := h.mod.size
    rcases hg b hx with h1 | h1
    · exact h.xn b h1
    · omega, h.mod.trans hm (fun _ _ h => h) (fun b hb hx => by have := h.xn b hx; omega)⟩
theorem Bk.ne_ow {w : World} {p : Nat} {t : TypeId} {xs : Array Value} {v : Value} {l : List Int} (h : Bk w p t xs) (ht : t ≠ 5) (hr : Own w v l) : v.ownBlock ≠ some p := fun e => by
  rcases hr.2 with ⟨rfl, _⟩ | ⟨g, cap, cur, rfl, hb, hg, _⟩
  · simp [Value.ownBlock] at e
  · simp only [Value.ownBlock, Option.some.injEq] at e
    subst e
    rw [h.at'] at hg
    simp at hg
    exact ht hg.2
/-- The first message of a row. -/
theorem Sy.first {w wr : World} {pa wa q : Nat} {F : Nat → Prop} {P : Nat → List Ms} {W : Nat → List (List Int)} {V U : Nat → Value} {X : Nat → Prop} {J : Sd → Option Pile} {N : Nat} (h : Sy w wr pa wa q F P W V U X J N) {k : Nat} (hk : k < 16) {m : Ms} {ms : List Ms} (hP : P k = m :: ms) :
    ∃ g off cap ab cb, V k = .slice (some ⟨g, off, none⟩) (ms.length + 1) cap ∧ wr.rangeAt g off (mcl m (.slice ab m.body.length cb)) ∧ Sl wr (.slice ab m.body.length cb) m.body ∧ (∀ b, (Value.slice ab m.body.length cb).ownBlock = some b → ¬ X b) ∧ (Value.slice ab m.body.length cb).ownBlock ≠ some pa := by
  obtain ⟨ds, hR⟩ := h.pz.ps k hk
  rw [hP] at hR
  obtain ⟨x, dr, rfl⟩ : ∃ x dr, ds = x :: dr := by
    cases ds with
    | nil => have := hR.len; simp at this
    | cons x dr => exact ⟨x, dr, rfl⟩
  have hl := hR.len
  have hms := hR.ms
  simp only [List.map_cons, List.cons.injEq] at hms
  obtain ⟨a1, a2, a3⟩ := hR.each x (List.mem_cons_self ..)
  obtain ⟨x1, x2⟩ := x
  obtain ⟨e1, e2⟩ := hms
  simp only at e1 a1 a2 a3
  subst e1
  obtain ⟨ab, cb, rfl⟩ := a1.shape
  obtain ⟨g, off, cap, e, hr⟩ := hR.row.range (by simp)
  refine ⟨g, off, cap, ab, cb, by rw [e, hl]; rfl, fun j c hj => hr j c ?_, a1.sl a2, fun b hb => h.sep b (a3 b hb), by
    obtain ⟨xs, hB, _⟩ := h.pz.pb
    exact hB.ne_ow (by decide) a1⟩
  have hj13 : j < 13 := by
    rcases Nat.lt_or_ge j 13 with h | h
    · exact h
    · rw [List.getElem?_eq_none (by exact h)] at hj; cases hj
  rw [fm, List.getElem?_append_left (by exact hj13)]
  exact hj
/-- It is cut off. -/
theorem Sy.cutp {w wr : World} {pa wa q : Nat} {F : Nat → Prop} {P : Nat → List Ms} {W : Nat → List (List Int)} {V U : Nat → Value} {X : Nat → Prop} {J : Sd → Option Pile} {N : Nat} (h : Sy w wr pa wa q F P W V U X J N) {k : Nat} (hk : k < 16) {m : Ms} {ms : List Ms} (hP : P k = m :: ms) {ao an : Option Addr} {n cap : Nat} (hV : V k = .slice ao (n + 1) cap) (han : (if cap = 1 then ao else ao.map (·.add 13)) = an) :
    Sy w (wr.setCell ⟨pa, k, none⟩ (.slice an n (cap - 1))) pa wa q F (at1 P k ms) W (at1 V k (.slice an n (cap - 1))) U X J N := by
  obtain ⟨ds, hR⟩ := h.pz.ps k hk
  have hR' := hR
  rw [hP] at hR
  obtain ⟨x, dr, rfl⟩ : ∃ x dr, ds = x :: dr := by
    cases ds with
    | nil => have := hR.len; simp at this
    | cons x dr => exact ⟨x, dr, rfl⟩
  obtain ⟨ao', cap', e⟩ := hR.row.shape
  rw [hV, List.length_cons] at e
  simp only [Value.slice.injEq] at e
  obtain ⟨rfl, e2, rfl⟩ := e
  obtain rfl : n = dr.length := by omega
  rw [hV] at hR
  obtain ⟨h1, -, h3⟩ := hR.tail han
  obtain ⟨h4, h5⟩ := h.pz.setp hk (v' := .slice an dr.length (cap - 1)) (Mod.refl _ wr) h1 (fun _ h => h) h.pz.lt (fun b hb => .inl (by rw [hV]; exact h3 b hb))
  exact ⟨h4, h.jn.mod h5 (fun b hx hf => h.sep b hf hx), h.sep, h.fn, h.xn, h.mod.trans h5 (fun _ _ h => h) (fun b hb hf => by have := h.fn b hf; omega)⟩
/-- The first payload of a row. -/
theorem Sy.firstw {w wr : World} {pa wa q : Nat} {F : Nat → Prop} {P : Nat → List Ms} {W : Nat → List (List Int)} {V U : Nat → Value} {X : Nat → Prop} {J : Sd → Option Pile} {N : Nat} (h : Sy w wr pa wa q F P W V U X J N) {k : Nat} (hk : k < 16) {p : List Int} {ps : List (List Int)} (hW : W k = p :: ps) :
    ∃ g off cap ab cb, U k = .slice (some ⟨g, off, none⟩) (ps.length + 1) cap ∧ wr.cell? ⟨g, off, none⟩ = some (.slice ab p.length cb) ∧ Sl wr (.slice ab p.length cb) p := by
  obtain ⟨us, hR⟩ := h.pz.ws k hk
  rw [hW] at hR
  have hl := hR.len
  obtain ⟨x, dr, rfl⟩ : ∃ x dr, us = x :: dr := by
    cases us with
    | nil => simp at hl
    | cons x dr => exact ⟨x, dr, rfl⟩
  obtain ⟨a1, a2, a3⟩ := hR.each 0 x p rfl rfl
  obtain ⟨ab, cb, rfl⟩ := a1.shape
  obtain ⟨g, off, cap, e, hr⟩ := hR.row.range (by simp)
  exact ⟨g, off, cap, ab, cb, by rw [e, hl]; rfl, hr 0 _ rfl, a1.sl a2⟩
theorem Sy.cutw {w wr : World} {pa wa q : Nat} {F : Nat → Prop} {P : Nat → List Ms} {W : Nat → List (List Int)} {V U : Nat → Value} {X : Nat → Prop} {J : Sd → Option Pile} {N : Nat} (h : Sy w wr pa wa q F P W V U X J N) {k : Nat} (hk : k < 16) {p : List Int} {ps : List (List Int)} (hW : W k = p :: ps) {ao an : Option Addr} {n cap : Nat} (hU : U k = .slice ao (n + 1) cap) (han : (if cap = 1 then ao else ao.map (·.add 1)) = an) :
    Sy w (wr.setCell ⟨wa, k, none⟩ (.slice an n (cap - 1))) pa wa q F P (at1 W k ps) V (at1 U k (.slice an n (cap - 1))) X J N := by
  obtain ⟨us, hR⟩ := h.pz.ws k hk
  rw [hW] at hR
  have hl := hR.len
  obtain ⟨x, dr, rfl⟩ : ∃ x dr, us = x :: dr := by
    cases us with
    | nil => simp at hl
    | cons x dr => exact ⟨x, dr, rfl⟩
  obtain ⟨ao', cap', e⟩ := hR.row.shape
  rw [hU, List.length_cons] at e
  simp only [Value.slice.injEq] at e
  obtain ⟨rfl, e2, rfl⟩ := e
  obtain rfl : n = dr.length := by omega
  rw [hU] at hR
  obtain ⟨h1, h3⟩ := hR.tail han
  obtain ⟨h4, h5⟩ := h.pz.setw hk (v' := .slice an dr.length (cap - 1)) (Mod.refl _ wr) h1 (fun _ h => h) h.pz.lt (fun b hb => .inl (by rw [hU]; exact h3 b hb))
  exact ⟨h4, h.jn.mod h5 (fun b hx hf => h.sep b hf hx), h.sep, h.fn, h.xn, h.mod.trans h5 (fun _ _ h => h) (fun b hb hf => by have := h.fn b hf; omega)⟩
/-- What holds at a round's start of the outer loop. -/
structure Ro (w wr : World) (pa wa q a : Nat) (lf : Bool) : Prop where
  ex : ∃ F P W V U X J N, Sy w wr pa wa q F P W V U X J N ∧ Pq J P W ∧ N ≤ a ∧ (lf = true → a + 16 * tt P ≤ 51200) ∧ (lf = false → ∀ k, k < 16 → P k = [])
  le : a ≤ 51216
/-- And of the inner one: n of sixteen have had their turn. -/
structure Ri (w wr : World) (pa wa q a T n : Nat) (lf : Bool) : Prop where
  ex : ∃ F P W V U X J N, Sy w wr pa wa q F P W V U X J N ∧ Pq J P W ∧ N ≤ a + n ∧ (lf = true → tt P + 1 ≤ T) ∧ (lf = false → tt P = T ∧ ∀ k, k < n → P k = [])
theorem Ri.done {w wr : World} {pa wa q a T : Nat} {lf : Bool} (h : Ri w wr pa wa q a T 16 lf) (ha : a + 16 * T ≤ 51200) : Ro w wr pa wa q (a + 16) lf := by
  obtain ⟨F, P, W, V, U, X, J, N, h1, h2, h3, h4, h5⟩ := h.ex
  exact ⟨⟨F, P, W, V, U, X, J, N, h1, h2, h3, fun e => by have := h4 e; omega, fun e => (h5 e).2⟩, by omega⟩
theorem Ro.begin {w wr w' : World} {pa wa q : Nat} {X : Nat → Prop} (h : Lp w wr pa wa 40) (hj : Jn w' q X (fun _ => none) 0) (hm : Mod (fun _ => False) wr w') (hX : ∀ b, X b → wr.heap.size ≤ b) : Ro w w' pa wa q 0 true := by
  obtain ⟨F, P, W, V, U, h1, h2, h3, h4⟩ := h.ex
  have := tt_le h2
  exact ⟨⟨F, P, W, V, U, X, _, 0, ⟨h1.mod hm (fun _ _ h => h), hj, fun b hf hx => by have := h1.lt b hf; have := hX b hx; omega, h3, fun b hx => by have := hX b hx; have := h4.size; omega, h4.trans hm (fun _ _ h => h) (fun _ _ h => h)⟩, Pq.start h2, Nat.le_refl _, fun _ => by omega, fun e => by cases e⟩, by omega⟩
theorem Ro.end {w wr : World} {pa wa q a : Nat} (h : Ro w wr pa wa q a false) : ∃ X, Jn wr q X (fun _ => none) 0 ∧ Mod (fun _ => False) w wr := by
  obtain ⟨F, P, W, V, U, X, J, N, h1, h2, h3, h4, h5⟩ := h.ex
  have e := h2.none (h5 rfl)
  subst e
  have hj := h1.jn
  obtain ⟨⟨B, V', b1, b2, b3, b4, b5⟩, b6⟩ := hj
  obtain rfl : N = 0 := b4.cnt.uniq Cnt.zero
  exact ⟨X, h1.jn, h1.mod⟩
/-- A sender's place. -/
structure Kp (wk wx : World) (v : Value) (Z : Nat → Prop) : Prop where
  ex : ∃ kk : Nat, v = .int .i64 (kk : Int) ∧ kk < 16 ∧ Z kk ∧ wx = wk
end Go.Proofs.Ytifogbhlphofjaa
