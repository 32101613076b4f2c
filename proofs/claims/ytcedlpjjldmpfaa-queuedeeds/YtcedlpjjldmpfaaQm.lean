/- Contracts of the document's queue: New, Len, Room, Take, and what Put refuses. No conditions beyond sizes that a slice has. -/
import Derived.Test.YtcedlpjjldmpfaaQh
import Derived.Test.YtcedlpjjldmpfaaRw
import Derived.Test.YtcedlpjjldmpfaaRx
namespace Go.Proofs.Ytcedlpjjldmpfaa
open Go.RowKit
/-- The document's queue at block p; Y: its blocks. -/
structure Dq (w : World) (p : Nat) (Y : Nat → Prop) (L : List Ms) (v : Value) (ds : List (Ms × Value)) : Prop where
  blk : Bk w p 55 #[v]
  row : RM w v ds
  ms : ds.map (·.1) = L
  each : ∀ d ∈ ds, Own w d.2 d.1.body ∧ (∀ c ∈ d.1.body, 0 ≤ c ∧ c ≤ 255) ∧ (∀ b, d.2.ownBlock = some b → Y b)
  new : ∀ b, v.ownBlock = some b → Y b
  l32 : L.length ≤ 32
  inY : Y p
  lt : ∀ b, Y b → b < w.heap.size
def Dw (w : World) (p : Nat) (Y : Nat → Prop) (L : List Ms) : Prop := ∃ v ds, Dq w p Y L v ds
theorem Dq.mod {S : Nat → Prop} {w w' : World} {p : Nat} {Y : Nat → Prop} {L : List Ms} {v : Value} {ds : List (Ms × Value)} (h : Dq w p Y L v ds) (hm : Mod S w w') (hS : ∀ b, Y b → ¬ S b) : Dq w' p Y L v ds :=
  ⟨h.blk.mod hm (hS p h.inY), h.row.mod hm (fun b hb => hS b (h.new b hb)), h.ms, fun d hd => ⟨(h.each d hd).1.mod hm (fun b hb => hS b ((h.each d hd).2.2 b hb)), (h.each d hd).2⟩, h.new, h.l32, h.inY, fun b hb => Nat.lt_of_lt_of_le (h.lt b hb) hm.size⟩
theorem Dw.mod {S : Nat → Prop} {w w' : World} {p : Nat} {Y : Nat → Prop} {L : List Ms} (h : Dw w p Y L) (hm : Mod S w w') (hS : ∀ b, Y b → ¬ S b) : Dw w' p Y L := by
  obtain ⟨v, ds, h⟩ := h
  exact ⟨v, ds, h.mod hm hS⟩
theorem Dw.inY {w : World} {p : Nat} {Y : Nat → Prop} {L : List Ms} (h : Dw w p Y L) : Y p := by
  obtain ⟨v, ds, h⟩ := h
  exact h.inY
theorem Dw.lt {w : World} {p : Nat} {Y : Nat → Prop} {L : List Ms} (h : Dw w p Y L) : ∀ b, Y b → b < w.heap.size := by
  obtain ⟨v, ds, h⟩ := h
  exact h.lt
theorem Dq.len {w : World} {p : Nat} {Y : Nat → Prop} {L : List Ms} {v : Value} {ds : List (Ms × Value)} (h : Dq w p Y L v ds) : ds.length = L.length := by rw [← h.ms]; simp
theorem dNew13 (w : World) : Calls Try.prog 8 #[] w fun e w' => ∃ p Y, e = .returned (.pointer (some ⟨p, 0, none⟩)) ∧ Dw w' p Y [] ∧ Mod (fun _ => False) w w' ∧ (∀ b, Y b → w.heap.size ≤ b) := by
  go_enter Try.func8, Try.ntmps8
  go_wp2
  go_ret
  exact ⟨w.heap.size, fun b => b = w.heap.size, rfl, ⟨.slice none 0 0, [], ⟨Bk.new w #[.slice none 0 0] _, RM.nil _, rfl, by simp, by simp [Value.ownBlock], by simp, rfl, fun b hb => by subst hb; simp⟩⟩, (Mod.refl _ w).alloc _, fun b hb => by subst hb; exact Nat.le_refl _⟩
theorem dLen13 {w : World} {p : Nat} {Y : Nat → Prop} {L : List Ms} (h : Dw w p Y L) : Calls Try.prog 17 #[.pointer (some ⟨p, 0, none⟩)] w fun e w' => e = .returned (.int .i64 (L.length : Int)) ∧ w' = w := by
  obtain ⟨v, ds, h⟩ := h
  have c0 := h.blk.cellv (j := 0) rfl
  obtain ⟨av, cv, ev⟩ := h.row.shape
  rw [h.len] at ev
  subst ev
  clear h
  go_enter Try.func17, Try.ntmps17
  go_wp2
  go_ret
  exact ⟨rfl, rfl⟩
theorem dRoom13 {w : World} {p : Nat} {Y : Nat → Prop} {L : List Ms} (h : Dw w p Y L) : Calls Try.prog 19 #[.pointer (some ⟨p, 0, none⟩)] w fun e w' => e = .returned (.int .i64 (32 - (L.length : Int))) ∧ w' = w := by
  obtain ⟨v, ds, h⟩ := h
  have c0 := h.blk.cellv (j := 0) rfl
  obtain ⟨av, cv, ev⟩ := h.row.shape
  rw [h.len] at ev
  subst ev
  have hl : (L.length : Int) ≤ 32 := by have := h.l32; omega
  clear h
  go_enter Try.func19, Try.ntmps19
  go_wp2
  go_ret
  exact ⟨rfl, rfl⟩
theorem dTake_empty {w : World} {p : Nat} {Y : Nat → Prop} (h : Dw w p Y []) : Calls Try.prog 15 #[.pointer (some ⟨p, 0, none⟩)] w fun e w' => e = .returned (.tuple #[.agg #[.int .i64 0, .int .i64 0, .int .i64 0, .int .i64 0, .int .i64 0, .int .i64 0, .int .i64 0, .bool false, .int .i64 0, .int .i64 0, .int .i64 0, .int .i64 0, .slice none 0 0], .int .i64 8]) ∧ Mod (fun _ => False) w w' := by
  obtain ⟨v, ds, h⟩ := h
  have hA := (Mod.refl (fun _ => False) w).alloc (.cells #[.int .i64 0, .int .i64 0, .int .i64 0, .int .i64 0, .int .i64 0, .int .i64 0, .int .i64 0, .bool false, .int .i64 0, .int .i64 0, .int .i64 0, .int .i64 0, .slice none 0 0] 40)
  have c0 := hA.cell (h.blk.cellv (j := 0) rfl) (fun h => h)
  have hN := Bk.new w #[.int .i64 0, .int .i64 0, .int .i64 0, .int .i64 0, .int .i64 0, .int .i64 0, .int .i64 0, .bool false, .int .i64 0, .int .i64 0, .int .i64 0, .int .i64 0, .slice none 0 0] 40
  obtain ⟨av, cv, ev⟩ := h.row.shape
  rw [h.len] at ev
  subst ev
  clear h
  go_enter Try.func15, Try.ntmps15
  go_wp2_with (refine wpList_store_row sizeM13 rfl rfl _ _ rfl (w.heap.size) #[.int .i64 0, .int .i64 0, .int .i64 0, .int .i64 0, .int .i64 0, .int .i64 0, .int .i64 0, .bool false, .int .i64 0, .int .i64 0, .int .i64 0, .int .i64 0, .slice none 0 0] rfl rfl hN rfl rfl rfl ?_; intro wF hBF hMF)
  exact bodyPost_ret (resTk rfl rfl rfl hBF rfl) rfl ⟨rfl, hA.trans hMF (fun _ _ h => h) (fun b hb e => by omega)⟩
theorem exec_cutM {oq : Oper} {w : World} {ρ : Operand → Value} {x : Operand} {ao : Option Addr} {n cap : Nat} (hc : ρ (.const (.int .i64 1)) = .int .i64 1) (ho : oq.op = .slice 27 x (some (.const (.int .i64 1))) none none) (hx : ρ x = .slice ao (n + 1) cap) : (execOp ρ oq).run Try.prog w = .ok (.value (.slice (if cap = 1 then ao else ao.map (·.add 13)) n (cap - 1))) w := by
  unfold execOp
  rw [ho]
  simp only [Option.map_some, Option.map_none, hx, hc]
  rw [Sem.run_bind, run_cutM ao (n + 1) cap w (by omega)]
  rfl
theorem exec_cutM2 {oq : Oper} {w : World} {ρ : Operand → Value} {x : Operand} {ao an : Option Addr} {n cap : Nat} (h : (if cap = 1 then ao else ao.map (·.add 13)) = an) (hc : ρ (.const (.int .i64 1)) = .int .i64 1) (ho : oq.op = .slice 27 x (some (.const (.int .i64 1))) none none) (hx : ρ x = .slice ao (n + 1) cap) : (execOp ρ oq).run Try.prog w = .ok (.value (.slice an n (cap - 1))) w := by
  rw [← h]
  exact exec_cutM hc ho hx
set_option maxRecDepth 100000 in
set_option maxHeartbeats 2000000 in
theorem dTake_some {w : World} {q : Nat} {Y : Nat → Prop} {L : List Ms} (k o lf i p ps g : Int) (s : Bool) (st rs rr sq : Int) (l : List Int) (h : Dw w q Y (⟨k, o, lf, i, p, ps, g, s, st, rs, rr, sq, l⟩ :: L)) : Calls Try.prog 15 #[.pointer (some ⟨q, 0, none⟩)] w fun e w' => ∃ ao cap, e = .returned (.tuple #[.agg #[.int .i64 k, .int .i64 o, .int .i64 lf, .int .i64 i, .int .i64 p, .int .i64 ps, .int .i64 g, .bool s, .int .i64 st, .int .i64 rs, .int .i64 rr, .int .i64 sq, .slice ao l.length cap], .int .i64 0]) ∧ Own w' (.slice ao l.length cap) l ∧ Dw w' q Y L ∧ Mod (fun b => b = q) w w' ∧ (∀ b, (Value.slice ao l.length cap).ownBlock = some b → Y b) := by
  obtain ⟨v, ds, h⟩ := h
  obtain ⟨d0, dsr, rfl⟩ : ∃ d0 dsr, ds = d0 :: dsr := by
    cases ds with
    | nil => have := h.ms; simp at this
    | cons a r => exact ⟨a, r, rfl⟩
  have hms := h.ms
  simp only [List.map_cons, List.cons.injEq] at hms
  obtain ⟨dm, v0⟩ := d0
  simp only at hms
  obtain ⟨rfl, hmr⟩ := hms
  obtain ⟨ho0, hr0, hy0⟩ := h.each _ (List.mem_cons_self ..)
  simp only at ho0 hr0 hy0
  obtain ⟨ao, cap, rfl⟩ := ho0.shape
  obtain ⟨ag, cg, eg, hle, hg⟩ := h.row.form
  have hll := h.len
  simp only [List.length_cons] at hll eg
  subst eg
  rcases hg with ⟨rfl, rfl⟩ | ⟨gb, ob, cur, rfl, hBg, hsz, hcells⟩
  · simp at hle
  have erl : dsr.length = L.length := by omega
  have hrg : w.rangeAt gb ob (mcl ⟨k, o, lf, i, p, ps, g, s, st, rs, rr, sq, l⟩ (.slice ao l.length cap)) := hBg.range _ _ fun j c hj => hcells j c (by
    have := fm_get ((⟨k, o, lf, i, p, ps, g, s, st, rs, rr, sq, l⟩, .slice ao l.length cap) :: dsr) 0 _ rfl j c hj
    simpa using this)
  have hTl := h.row.tail
  rw [erl] at hTl
  obtain ⟨an, han⟩ : ∃ an, (if cg = 1 then some ⟨gb, ob, none⟩ else (some ⟨gb, ob, none⟩ : Option Addr).map (·.add 13)) = an := ⟨_, rfl⟩
  rw [han] at hTl
  have HAN : Hid ((if cg = 1 then some ⟨gb, ob, none⟩ else (some ⟨gb, ob, none⟩ : Option Addr).map (·.add 13)) = an) := han
  clear han
  have hA := ((Mod.refl (fun _ => False) w).alloc (.cells #[.int .i64 0, .int .i64 0, .int .i64 0, .int .i64 0, .int .i64 0, .int .i64 0, .int .i64 0, .bool false, .int .i64 0, .int .i64 0, .int .i64 0, .int .i64 0, .slice none 0 0] 40)).alloc (.cells #[.int .i64 k, .int .i64 o, .int .i64 lf, .int .i64 i, .int .i64 p, .int .i64 ps, .int .i64 g, .bool s, .int .i64 st, .int .i64 rs, .int .i64 rr, .int .i64 sq, .slice ao l.length cap] 40)
  have hA1 := (Mod.refl (fun _ => False) w).alloc (.cells #[.int .i64 0, .int .i64 0, .int .i64 0, .int .i64 0, .int .i64 0, .int .i64 0, .int .i64 0, .bool false, .int .i64 0, .int .i64 0, .int .i64 0, .int .i64 0, .slice none 0 0] 40)
  obtain ⟨d0, d1, d2, d3, d4, d5, d6, d7, d8, d9, d10, d11, d12⟩ := range13 (range_mod hrg hA1 (fun h => h))
  have c0 : w.cell? ⟨q, 0, none⟩ = some (.slice (some ⟨gb, ob, none⟩) (L.length + 1) cg) := by rw [← erl]; exact h.blk.cellv (j := 0) rfl
  have c1 := hA1.cell c0 (fun h => h)
  have hBq := h.blk.mod hA (fun h => h)
  have c2 := hA.cell c0 (fun h => h)
  have f2 := hBq.frz 0
  have f1 := h.blk.frz 0
  have hqw := h.lt q h.inY
  have hln : ¬ (L.length : Int) + 1 = 0 := by omega
  have HH : Hid (Dq w q Y (⟨k, o, lf, i, p, ps, g, s, st, rs, rr, sq, l⟩ :: L) (.slice (some ⟨gb, ob, none⟩) (dsr.length + 1) cg) ((⟨k, o, lf, i, p, ps, g, s, st, rs, rr, sq, l⟩, .slice ao l.length cap) :: dsr)) := h
  have HT : Hid (RM w (.slice an L.length (cg - 1)) dsr ∧ dsr.map (·.1) = L) := ⟨hTl, hmr⟩
  have HOw : Hid (Own w (.slice ao l.length cap) l ∧ (∀ b, (Value.slice ao l.length cap).ownBlock = some b → Y b)) := ⟨ho0, hy0⟩
  clear hBq hA1 h hrg hBg hsz hcells hle hTl hmr ho0 hr0 hy0 hA erl hll
  go_enter Try.func15, Try.ntmps15
  go_wp2_with (refine wpList_val rfl (exec_cutM2 HAN.out rfl rfl rfl) ?_; simp only [Act.put, List.setIfInBounds_toArray, List.set_cons_succ, List.set_cons_zero])
  have hS := (Mod.refl (fun b => b = q) w).setCell ⟨q, 0, none⟩ (.slice an L.length (cg - 1)) (.inl rfl)
  have hM := (hS.alloc (.cells #[.int .i64 k, .int .i64 o, .int .i64 lf, .int .i64 i, .int .i64 p, .int .i64 ps, .int .i64 g, .bool s, .int .i64 st, .int .i64 rs, .int .i64 rr, .int .i64 sq, .slice ao l.length cap] 40)).alloc (.cells #[.int .i64 k, .int .i64 o, .int .i64 lf, .int .i64 i, .int .i64 p, .int .i64 ps, .int .i64 g, .bool s, .int .i64 st, .int .i64 rs, .int .i64 rr, .int .i64 sq, .slice ao l.length cap] 40)
  have hAA := ((Mod.refl (fun _ => False) (w.setCell ⟨q, 0, none⟩ (.slice an L.length (cg - 1)))).alloc (.cells #[.int .i64 k, .int .i64 o, .int .i64 lf, .int .i64 i, .int .i64 p, .int .i64 ps, .int .i64 g, .bool s, .int .i64 st, .int .i64 rs, .int .i64 rr, .int .i64 sq, .slice ao l.length cap] 40)).alloc (.cells #[.int .i64 k, .int .i64 o, .int .i64 lf, .int .i64 i, .int .i64 p, .int .i64 ps, .int .i64 g, .bool s, .int .i64 st, .int .i64 rs, .int .i64 rr, .int .i64 sq, .slice ao l.length cap] 40)
  have hB4 := HH.out.blk.set 0 (.slice an L.length (cg - 1))
  simp only [List.setIfInBounds_toArray, List.set_cons_zero] at hB4
  have hBF := (Bk.new (w.setCell ⟨q, 0, none⟩ (.slice an L.length (cg - 1))) #[.int .i64 k, .int .i64 o, .int .i64 lf, .int .i64 i, .int .i64 p, .int .i64 ps, .int .i64 g, .bool s, .int .i64 st, .int .i64 rs, .int .i64 rr, .int .i64 sq, .slice ao l.length cap] 40).mod ((Mod.refl (fun _ => False) _).alloc (.cells #[.int .i64 k, .int .i64 o, .int .i64 lf, .int .i64 i, .int .i64 p, .int .i64 ps, .int .i64 g, .bool s, .int .i64 st, .int .i64 rs, .int .i64 rr, .int .i64 sq, .slice ao l.length cap] 40)) (fun h => h)
  have hz1 : (w.setCell ⟨q, 0, none⟩ (.slice an L.length (cg - 1))).heap.size = w.heap.size := by simp [World.setCell]
  rw [hz1] at hBF
  have hne : ∀ {l' : List Int} {u : Value}, Own w u l' → ∀ b, u.ownBlock = some b → ¬ b = q := fun ho b hb e => by
    obtain ⟨c1, h1⟩ := ho.kind hb
    have h2 := HH.out.blk.at'
    rw [e, h2] at h1
    simp at h1
  have hneR : ∀ b, (Value.slice an L.length (cg - 1)).ownBlock = some b → ¬ b = q := fun b hb e => by
    obtain ⟨c1, h1⟩ := HT.out.1.kind hb
    have h2 := HH.out.blk.at'
    rw [e, h2] at h1
    simp at h1
  refine bodyPost_ret (resTk rfl rfl rfl hBF rfl) rfl ⟨ao, cap, rfl, HOw.out.1.mod hM (hne HOw.out.1), ⟨_, dsr, ⟨hB4.mod hAA (fun h => h), HT.out.1.mod hM hneR, HT.out.2, fun d hd => ?_, fun b hb => HH.out.new b ?_, ?_, HH.out.inY, fun b hb => Nat.lt_of_lt_of_le (HH.out.lt b hb) hM.size⟩⟩, hM, HOw.out.2⟩
  · obtain ⟨a1, a2, a3⟩ := HH.out.each d (List.mem_cons_of_mem _ hd)
    exact ⟨a1.mod hM (hne a1), a2, a3⟩
  · rw [← HAN.out] at hb
    split at hb
    · exact hb
    · simp only [Option.map_some, Value.ownBlock, Addr.add] at hb ⊢
      split at hb <;> exact hb
  · have := HH.out.l32
    simp only [List.length_cons] at this
    omega
end Go.Proofs.Ytcedlpjjldmpfaa
