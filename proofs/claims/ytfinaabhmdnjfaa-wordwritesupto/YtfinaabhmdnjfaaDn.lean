/- Lists of deeds in memory, what a deed is written as and how it is read again: laws for the proof of WordBack. No conditions beyond those in each statement. -/
import Derived.Test.YtfinaabhmdnjfaaDe
namespace Go.Proofs.Ytfinaabhmdnjfaa
open Go.RowKit
theorem info31 : (Try.prog.info? 31).map (fun i => (i.zero, i.size, i.bytes)) = some (some (.agg #[.int .i64 0, .int .i64 0, .int .i64 0, .slice none 0 0]), 4, 48) := by kernel_rfl

/-- Deeds as cells. -/
def DC (ds : List Dd) : List Value := ds.flatMap fun d => [.int .i64 d.kind, .int .i64 d.v, .int .i64 d.size, d.bv]
theorem DC_len : ∀ ds : List Dd, (DC ds).length = ds.length * 4
  | [] => rfl
  | d :: ds => by
    have := DC_len ds
    simp only [DC, List.flatMap_cons, List.length_append, List.length_cons, List.length_nil] at this ⊢
    omega
theorem DC_app (a b : List Dd) : DC (a ++ b) = DC a ++ DC b := by simp [DC]
theorem DC_get : ∀ (ds : List Dd) (k : Nat) (d : Dd), ds[k]? = some d → (DC ds)[k * 4]? = some (.int .i64 d.kind) ∧ (DC ds)[k * 4 + 1]? = some (.int .i64 d.v) ∧ (DC ds)[k * 4 + 2]? = some (.int .i64 d.size) ∧ (DC ds)[k * 4 + 3]? = some d.bv
  | [], k, d, h => by simp at h
  | x :: ds, 0, d, h => by
    simp only [List.getElem?_cons_zero, Option.some.injEq] at h
    subst h
    simp [DC]
  | x :: ds, k + 1, d, h => by
    have := DC_get ds k d (by simpa using h)
    have e : DC (x :: ds) = [.int .i64 x.kind, .int .i64 x.v, .int .i64 x.size, x.bv] ++ DC ds := by simp [DC]
    rw [e, show (k + 1) * 4 = 4 + k * 4 from by omega]
    refine ⟨?_, ?_, ?_, ?_⟩
    · rw [List.getElem?_append_right (by simp)]; simpa using this.1
    · rw [List.getElem?_append_right (by simp; omega), show 4 + k * 4 + 1 - [Value.int .i64 x.kind, .int .i64 x.v, .int .i64 x.size, x.bv].length = k * 4 + 1 from by simp; omega]; exact this.2.1
    · rw [List.getElem?_append_right (by simp; omega), show 4 + k * 4 + 2 - [Value.int .i64 x.kind, .int .i64 x.v, .int .i64 x.size, x.bv].length = k * 4 + 2 from by simp; omega]; exact this.2.2.1
    · rw [List.getElem?_append_right (by simp; omega), show 4 + k * 4 + 3 - [Value.int .i64 x.kind, .int .i64 x.v, .int .i64 x.size, x.bv].length = k * 4 + 3 from by simp; omega]; exact this.2.2.2

/-- The deeds that the law has gathered. -/
def Dn (w : World) (v : Value) (ds : List Dd) : Prop := w.ownsRow 0 31 4 v ds.length (DC ds)
theorem Dn.mod {S : Nat → Prop} {w w' : World} {v : Value} {l : List Dd} (h : Dn w v l) (hm : Mod S w w') (hv : ∀ g, v.ownBlock = some g → ¬ S g) : Dn w' v l := by
  obtain ⟨h1, h2⟩ := h
  refine ⟨h1, ?_⟩
  rcases h2 with h2 | ⟨g, cap, cur, rfl, hb, hg, r⟩
  · exact Or.inl h2
  · exact Or.inr ⟨g, cap, cur, rfl, hb, hm.obj hg (hv g rfl), r⟩
theorem Dn.kind {w : World} {v : Value} {l : List Dd} (h : Dn w v l) {g : Nat} (hg : v.ownBlock = some g) : ∃ cur, w.heap[g]? = some (.cells cur 31 (0, 0)) := by
  rcases h.2 with ⟨rfl, _⟩ | ⟨g', cap, cur, rfl, hb, hh, _⟩
  · simp [Value.ownBlock] at hg
  · simp only [Value.ownBlock, Option.some.injEq] at hg
    subst hg
    exact ⟨cur, hh⟩
theorem Dn.shape {w : World} {v : Value} {l : List Dd} (h : Dn w v l) : ∃ ao cap, v = .slice ao l.length cap := by
  rcases h.2 with ⟨rfl, h0⟩ | ⟨g, cap, cur, rfl, _⟩
  · exact ⟨none, 0, by rw [h0]⟩
  · exact ⟨_, cap, rfl⟩
/-- Its block is neither a writer's nor that of what a writer has. -/
theorem Dn.far {w : World} {vd v : Value} {ds : List Dd} {p : Nat} {l : List Int} (h : Dn w vd ds) (hw : Wr w p v l) : ∀ g, vd.ownBlock = some g → ¬ (g = p ∨ v.ownBlock = some g) := by
  intro g hg
  obtain ⟨cur, hc⟩ := h.kind hg
  rintro (rfl | e)
  · rw [hw.blk] at hc; simp at hc
  · obtain ⟨cur', hc'⟩ := hw.own.kind e
    rw [hc'] at hc; simp at hc
theorem Mod.fresh {S : Nat → Prop} {w a b : World} (h : Mod (fun _ => False) w a) (k : Mod S a b) (hS : ∀ i, S i → w.heap.size ≤ i) : Mod (fun _ => False) w b :=
  h.trans k (fun _ _ h => h) (fun i hi hs => by have := hS i hs; omega)

/-- What a deed is written as, and whether it may be. -/
def encD (d : Dd) : List Int := if d.kind % 3 = 0 then Ytfinaabhmdnjfaa.enc d.v.toNat else if d.kind % 3 = 1 then fenc d.size.toNat d.v.toNat else Ytfinaabhmdnjfaa.enc d.b.length ++ d.b
def okD (d : Dd) : Bool := if d.kind % 3 = 0 then decide (0 ≤ d.v ∧ d.v ≤ 9007199254740991) else if d.kind % 3 = 1 then decide (fwE d.v d.size = 0) else true
def wt (ds : List Dd) : Nat := (ds.map fun x => x.b.length + 1).sum
theorem wt_take (ds : List Dd) (k : Nat) (d : Dd) (h : ds[k]? = some d) : wt (ds.take (k + 1)) = wt (ds.take k) + (d.b.length + 1) := by
  have hk : k < ds.length := by
    rcases Nat.lt_or_ge k ds.length with h' | h'
    · exact h'
    · rw [List.getElem?_eq_none h'] at h; cases h
  rw [List.take_add_one, h]
  simp [wt]
theorem wt_app (a b : List Dd) : wt (a ++ b) = wt a + wt b := by simp [wt]
theorem wt_le (ds : List Dd) (k : Nat) : wt (ds.take k) ≤ wt ds := by
  have h := wt_app (ds.take k) (ds.drop k)
  rw [List.take_append_drop] at h
  omega
theorem len_wt : ∀ ds : List Dd, ds.length ≤ wt ds
  | [] => by simp
  | d :: ds => by
    have := len_wt ds
    simp only [wt, List.map_cons, List.sum_cons, List.length_cons] at this ⊢
    omega
theorem encD_len (d : Dd) (h : okD d = true) : (encD d).length ≤ 8 * (d.b.length + 1) := by
  unfold encD
  unfold okD at h
  split
  · have := enc_len d.v.toNat; omega
  · rename_i h0
    rw [if_neg h0] at h
    split
    · rename_i h1
      rw [if_pos h1] at h
      simp only [decide_eq_true_eq] at h
      rw [fenc_len]
      unfold fwE at h
      have : ¬ (d.size < 1 ∨ 8 < d.size) := by intro ha; rw [if_pos ha] at h; omega
      omega
    · have := enc_len d.b.length; rw [List.length_append]; omega
theorem news4 (w : World) (a b c d : Value) : ∀ j u, [a, b, c, d][j]? = some u → (w.alloc (.cells #[a, b, c, d] 31)).cell? ((⟨w.heap.size, 0, none⟩ : Addr).add j) = some u :=
  World.news_of_block (heap_alloc_new w (.cells #[a, b, c, d] 31))
theorem take_filter (ds : List Dd) (k : Nat) (d : Dd) (h : ds[k]? = some d) : (ds.take (k + 1)).filter okD = (ds.take k).filter okD ++ if okD d then [d] else [] := by
  rw [List.take_add_one, h, List.filter_append]
  by_cases ho : okD d <;> simp [ho]
/-- One deed more is gathered. -/
theorem Dn.more {w w1 : World} {vd : Value} {dn : List Dd} {d : Dd} {g cap : Nat} (hown : w1.ownsRow 0 31 4 (.slice (some ⟨g, 0, none⟩) (dn.length + 1) cap) (dn.length + 1) (DC dn ++ [.int .i64 d.kind, .int .i64 d.v, .int .i64 d.size, d.bv]))
    (hgrow : (w.alloc (.cells #[.int .i64 d.kind, .int .i64 d.v, .int .i64 d.size, d.bv] 31)).grownBy w1 vd.ownBlock) (hg : vd.ownBlock = some g ∨ g = w.heap.size + 1) :
    Dn w1 (.slice (some ⟨g, 0, none⟩) (dn.length + 1) cap) (dn ++ [d]) ∧ Mod (fun k => vd.ownBlock = some k) w w1 ∧ Fr w vd (.slice (some ⟨g, 0, none⟩) (dn.length + 1) cap) := by
  refine ⟨?_, ((Mod.refl _ w).alloc _).grown hgrow (fun k hk _ => hk), ?_⟩
  · unfold Dn
    rw [DC_app, List.length_append]
    have e : DC [d] = [.int .i64 d.kind, .int .i64 d.v, .int .i64 d.size, d.bv] := by simp [DC]
    rw [e]
    exact hown
  · intro g' hg'
    simp only [Value.ownBlock, Option.some.injEq] at hg'
    subst hg'
    rcases hg with h | h
    · exact .inl h
    · right; omega
theorem mem_le_sum : ∀ {l : List Nat} {a : Nat}, a ∈ l → a ≤ l.sum
  | [], _, h => by simp at h
  | b :: l, a, h => by
    rcases List.mem_cons.1 h with rfl | h
    · simp
    · have := mem_le_sum h; simp; omega
theorem Dn.farR {w : World} {vd v : Value} {ds : List Dd} {p : Nat} {l : List Int} (h : Dn w vd ds) (hr : Rd w p v l) : ∀ g, vd.ownBlock = some g → ¬ g = p := by
  intro g hg e
  obtain ⟨cur, hc⟩ := h.kind hg
  rw [e, hr.blk] at hc
  simp at hc
theorem Dn.at {w : World} {vd : Value} {dn : List Dd} {k : Nat} {d : Dd} (h : Dn w vd dn) (hk : dn[k]? = some d) : ∃ g cap, vd = .slice (some ⟨g, 0, none⟩) dn.length cap := by
  rcases h.2 with ⟨rfl, h0⟩ | ⟨g, cap, cur, rfl, _⟩
  · have := List.eq_nil_of_length_eq_zero h0
    subst this
    simp at hk
  · exact ⟨g, cap, rfl⟩
theorem Dn.cells {w : World} {g cap : Nat} {dn : List Dd} {k : Nat} {d : Dd} (h : Dn w (.slice (some ⟨g, 0, none⟩) dn.length cap) dn) (hk : dn[k]? = some d) :
    w.cell? ⟨g, k * 4, none⟩ = some (.int .i64 d.kind) ∧ w.cell? ⟨g, k * 4 + 1, none⟩ = some (.int .i64 d.v) ∧ w.cell? ⟨g, k * 4 + 2, none⟩ = some (.int .i64 d.size) ∧ w.cell? ⟨g, k * 4 + 3, none⟩ = some d.bv := by
  have hlt : k < dn.length := by
    rcases Nat.lt_or_ge k dn.length with h' | h'
    · exact h'
    · rw [List.getElem?_eq_none h'] at hk; cases hk
  obtain ⟨q0, q1, q2, q3⟩ := DC_get dn k d hk
  refine ⟨?_, ?_, ?_, ?_⟩
  · rw [World.ownsRow.cellAt h _ (by omega)]; exact q0
  · rw [World.ownsRow.cellAt h _ (by omega)]; exact q1
  · rw [World.ownsRow.cellAt h _ (by omega)]; exact q2
  · rw [World.ownsRow.cellAt h _ (by omega)]; exact q3
theorem read0 {v : Int} (r : List Int) (h0 : 0 ≤ v) (h1 : v ≤ 9007199254740991) : num 0 0 (enc v.toNat ++ r) = (v, (((enc v.toNat).length : Nat) : Int), 0) := by
  rw [num_enc0 _ _ (by omega), Int.toNat_of_nonneg h0]
theorem read1 {v size : Int} (r : List Int) (hv : v ≤ 9223372036854775807) (hE : fwE v size = 0) : fixE size (fenc size.toNat v.toNat ++ r) = 0 ∧ fx ((fenc size.toNat v.toNat ++ r).take size.toNat) = v.toNat ∧ (fenc size.toNat v.toNat ++ r).drop size.toNat = r ∧ ((v.toNat : Nat) : Int) = v := by
  unfold fwE at hE
  have ha : ¬ (size < 1 ∨ 8 < size) := by intro ha; rw [if_pos ha] at hE; omega
  rw [if_neg ha] at hE
  have hc : ¬ (v < 0 ∨ 256 ^ size.toNat ≤ v) := by intro ha; rw [if_pos ha] at hE; omega
  have hfit : v.toNat < 256 ^ size.toNat := by
    have h1 : ¬ (256 : Int) ^ size.toNat ≤ v := fun h => hc (.inr h)
    have h2 : ((256 ^ size.toNat : Nat) : Int) = (256 : Int) ^ size.toNat := by simp
    omega
  have hl := fenc_len size.toNat v.toNat
  have ht : (fenc size.toNat v.toNat ++ r).take size.toNat = fenc size.toNat v.toNat := by
    conv => lhs; arg 1; rw [← hl]
    exact List.take_left
  have hdr : (fenc size.toNat v.toNat ++ r).drop size.toNat = r := by
    conv => lhs; arg 1; rw [← hl]
    exact List.drop_left
  have hx : fx ((fenc size.toNat v.toNat ++ r).take size.toNat) = v.toNat := by rw [ht, fx_fenc _ _ hfit]
  refine ⟨?_, hx, hdr, by omega⟩
  unfold fixE
  rw [if_neg ha, if_neg (by rw [List.length_append, hl]; omega), hx, if_neg (by omega)]
theorem read2 (b r : List Int) (hb : b.length ≤ 1048576) : octE b.length (enc b.length ++ b ++ r) = 0 ∧ num 0 0 (enc b.length ++ b ++ r) = (((b.length : Nat) : Int), (((enc b.length).length : Nat) : Int), 0) ∧
    ((enc b.length ++ b ++ r).drop (enc b.length).length).take b.length = b ∧ (enc b.length ++ b ++ r).drop ((enc b.length).length + b.length) = r := by
  have hn : num 0 0 (enc b.length ++ b ++ r) = (((b.length : Nat) : Int), (((enc b.length).length : Nat) : Int), 0) := by
    rw [List.append_assoc, num_enc0 _ _ (by omega)]
  refine ⟨?_, hn, ?_, ?_⟩
  · unfold octE
    rw [hn]
    simp only [ne_eq, not_true_eq_false, if_false]
    rw [if_neg (by omega), if_neg (by simp only [List.length_append]; omega)]
  · rw [List.append_assoc, List.drop_left, List.take_left]
  · rw [← List.length_append]
    exact List.drop_left
theorem drop_flat {dn : List Dd} {k : Nat} {d : Dd} (h : dn[k]? = some d) : (dn.drop k).flatMap encD = encD d ++ (dn.drop (k + 1)).flatMap encD := by
  have hk : k < dn.length := by
    rcases Nat.lt_or_ge k dn.length with h' | h'
    · exact h'
    · rw [List.getElem?_eq_none h'] at h; cases h
  have e : dn[k] = d := by rw [List.getElem?_eq_getElem hk] at h; exact Option.some.inj h
  rw [List.drop_eq_getElem_cons hk, e, List.flatMap_cons]
end Go.Proofs.Ytfinaabhmdnjfaa
