/- QueueOrder: messages come out as they went in. No conditions beyond sizes that a slice has. -/
import Derived.Test.YtcedlpjjldmpfaaQj
import Derived.Test.YtcedlpjjldmpfaaQi
import Derived.Test.YtcedlpjjldmpfaaRows
import Derived.ProofKit
import Derived.OpenShut
import Derived.Deep.Slices
import Derived.Deep.Strs
import Derived.Lib.SmallJoins
import Derived.SizedLaws
namespace Go.Proofs.Ytcedlpjjldmpfaa
open Go.RowKit
/-- A row, and another one behind it. -/
theorem Rn.app {w W w' : World} {B C : Nat} {v v' cv : Value} {ms ns : List Ms} {ds cs : List (Ms × Value)} (h : Rn w B v ms ds) (hW : Mod (fun _ => False) w W) (hc : Rn W C cv ns cs) (hC : B ≤ C) (hr : RM w' v' (ds ++ cs)) (hm : Mod (fun k => v.ownBlock = some k) W w') (hf : Fr W v v') (hB : B ≤ W.heap.size) : Rn w' B v' (ms ++ ns) (ds ++ cs) := by
  have hrW := h.row.mod hW (fun _ _ h => h)
  refine ⟨hr, by rw [List.map_append, h.ms, hc.ms], fun d hd => ?_, fun b hb' => ?_⟩
  · rcases List.mem_append.1 hd with hd | hd
    · obtain ⟨a1, a2, a3⟩ := h.each d hd
      have a1W := a1.mod hW (fun _ _ h => h)
      exact ⟨a1W.mod hm (fun g hg e => hrW.own_ne a1W hg e), a2, a3⟩
    · obtain ⟨a1, a2, a3⟩ := hc.each d hd
      exact ⟨a1.mod hm (fun g hg e => hrW.own_ne a1 hg e), a2, fun b hb => Nat.le_trans hC (a3 b hb)⟩
  · rcases hf b hb' with h1 | h1
    · exact h.new b h1
    · omega
/-- A row without its first one. -/
theorem Rn.tail {w : World} {B : Nat} {ao : Option Addr} {cap : Nat} {m : Ms} {ms : List Ms} {d : Ms × Value} {ds : List (Ms × Value)} (h : Rn w B (.slice ao (ds.length + 1) cap) (m :: ms) (d :: ds)) : Rn w B (.slice (if cap = 1 then ao else ao.map (·.add 13)) ds.length (cap - 1)) ms ds := by
  refine ⟨h.row.tail, by have := h.ms; simp at this; exact this.2, fun e he => h.each e (List.mem_cons_of_mem _ he), fun b hb => h.new b ?_⟩
  split at hb
  · cases ao <;> exact hb
  · cases ao with
    | none => cases hb
    | some a =>
      obtain ⟨ab, aof, asp⟩ := a
      simp only [Option.map_some, Value.ownBlock, Addr.add] at hb ⊢
      split at hb <;> exact hb
/-- A row is there as it was when a queue turns. -/
theorem Rn.modq {w w' : World} {B : Nat} {v : Value} {ms : List Ms} {ds : List (Ms × Value)} {q : Nat} {X : Nat → Prop} {L : List Ms} (h : Rn w B v ms ds) (hq : Qu w q X L) (hm : Mod (fun b => b = q) w w') : Rn w' B v ms ds := by
  obtain ⟨cq, hk⟩ := hq.kind
  refine ⟨h.row.mod hm (fun g hg e => ?_), h.ms, fun d hd => ⟨(h.each d hd).1.mod hm (fun g hg e => ?_), (h.each d hd).2⟩, h.new⟩
  · obtain ⟨c, hc⟩ := h.row.kind hg
    rw [e, hk] at hc
    simp at hc
  · obtain ⟨c, hc⟩ := (h.each d hd).1.kind hg
    rw [e, hk] at hc
    simp at hc
/-- A queue and its book. -/
def Od (w wr : World) (q : Nat) (v : Value) (L : List Ms) : Prop := ∃ X ds, Qu wr q X L ∧ Rn wr w.heap.size v L ds ∧ (∀ b, X b → w.heap.size ≤ b) ∧ Mod (fun _ => False) w wr
theorem Od.mod {w wr w' : World} {q : Nat} {v : Value} {L : List Ms} (h : Od w wr q v L) (hm : Mod (fun _ => False) wr w') : Od w w' q v L := by
  obtain ⟨X, ds, h1, h2, h3, h4⟩ := h
  exact ⟨X, ds, h1.mod hm (fun _ _ h => h), h2.mod hm (fun _ _ _ h => h), h3, h4.trans hm (fun _ _ h => h) (fun _ _ h => h)⟩
theorem bd_take {ds : List (Ms × Value)} {k : Nat} {d : Ms × Value} (h : ds[k]? = some d) : bd (ds.take (k + 1)) = (bd (ds.take k) || decide (chk d.1 ≠ 0)) := by
  unfold bd
  rw [List.take_add_one, h, Option.toList_some, List.any_append]
  simp
theorem Dds.at' {w : World} {b off : Nat} {es : List (Value × Int × List (Ms × Value))} {j : Nat} {e : Value × Int × List (Ms × Value)} (hc : ∀ i e, es[i]? = some e → w.cell? ⟨b, off + i * 2, none⟩ = some e.1 ∧ w.cell? ⟨b, off + i * 2 + 1, none⟩ = some (.int .i64 e.2.1)) (he : es[j]? = some e) {W : World} (hm : Mod (fun _ => False) w W) : W.cell? ⟨b, off + j * 2, none⟩ = some e.1 ∧ W.cell? ⟨b, off + j * 2 + 1, none⟩ = some (.int .i64 e.2.1) :=
  ⟨hm.cell (hc j e he).1 (fun h => h), hm.cell (hc j e he).2 (fun h => h)⟩
theorem exec_cutM {oq : Oper} {w : World} {ρ : Operand → Value} {x : Operand} {ao : Option Addr} {n cap : Nat} (hc : ρ (.const (.int .i64 1)) = .int .i64 1) (ho : oq.op = .slice 27 x (some (.const (.int .i64 1))) none none) (hx : ρ x = .slice ao (n + 1) cap) : (execOp ρ oq).run Try.prog w = .ok (.value (.slice (if cap = 1 then ao else ao.map (·.add 13)) n (cap - 1))) w := by
  unfold execOp
  rw [ho]
  simp only [Option.map_some, Option.map_none, hx, hc]
  rw [Sem.run_bind, run_cutM ao (n + 1) cap w (by omega)]
  rfl
set_option maxRecDepth 100000 in
set_option maxHeartbeats 16000000 in
theorem order_walk (va : Value) (es : List (Value × Int × List (Ms × Value))) (w : World) (hD : Dds w va es) : Calls Try.prog 4 #[va] w fun e w' => e = .returned (.bool true) ∧ Mod (fun _ => False) w w' := by
  obtain ⟨av, cv, rfl, hlen, hfm⟩ := hD.form
  have hlen' : (es.length : Int) ≤ 9223372036854775807 := by simp only [maxLen] at hlen; omega
  go_enter Try.func4, Try.ntmps4
  go_wp2_with (fail)
  refine (works_any w).mono ?_
  rintro e w1 ⟨rfl, hm1⟩
  go_wp2_with (fail)
  refine (qNew w1).mono ?_
  rintro e w2 ⟨q, X2, rfl, hQ2, hm2, hX2⟩
  have hO2 : Od w w2 q (.slice none 0 0) [] := ⟨X2, [], hQ2, Rn.nil _ _, fun b hb => Nat.le_trans hm1.size (hX2 b hb), hm1.trans hm2 (fun _ _ h => h) (fun _ _ h => h)⟩
  clear hQ2 hX2 hm1 hm2
  go_wp2_with (fail)
  go_loopw [4, 5, 6, 7, 8, 9, 10, 11] (fun v4 ci _ _ _ _ _ _ wr => ∃ (j : Nat) (L : List Ms), ci = .int .i64 (j : Int) ∧ j ≤ es.length ∧ Od w wr q v4 L) (fun _ ci _ _ _ _ _ _ _ => es.length - (intOf ci).toNat)
  case atStart => exact ⟨0, [], rfl, Nat.zero_le _, hO2⟩
  case round =>
    obtain ⟨j, L, rfl, hj, hO⟩ := hrel
    clear hO2
    by_cases hjn : j < es.length
    · have hjn' : (j : Int) < (es.length : Int) := by go_light; omega
      by_cases hj2 : j < 200
      · have hj2' : (j : Int) < 200 := by go_light; omega
        obtain ⟨d, hdj⟩ : ∃ d, es[j]? = some d := ⟨es[j], List.getElem?_eq_getElem hjn⟩
        obtain ⟨b, off, rfl, hc⟩ := hfm (by intro e; rw [e] at hjn; exact absurd hjn (Nat.not_lt_zero _))
        obtain ⟨hG, ht1, ht2⟩ := hD.each d (List.mem_of_getElem? hdj)
        have HD : ∀ W, Mod (fun _ => False) w W → W.cell? ⟨b, off + j * 2, none⟩ = some d.1 ∧ W.cell? ⟨b, off + j * 2 + 1, none⟩ = some (.int .i64 d.2.1) := fun W hm => Dds.at' hc hdj hm
        clear hc hfm hD hdj
        obtain ⟨dv, tk, ds⟩ := d
        simp only at hG ht1 ht2 HD
        obtain ⟨aj, cj, rfl, hdl, hdf⟩ := hG.form
        obtain ⟨X, dsb, hQ, hR, hX, hMr⟩ := hO
        obtain ⟨wo, ewo⟩ : ∃ wo, wo = wr := ⟨_, rfl⟩
        subst ewo
        obtain ⟨h1, h2⟩ := HD wo hMr
        have hdl' : (ds.length : Int) ≤ 140737488355327 := by go_light; omega
        go_wp2_with (fail)
        go_loopw [6, 7] (fun v6 ck wk => ∃ (k : Nat), ck = .int .i64 (k : Int) ∧ k ≤ ds.length ∧ v6 = .bool (!(bd (ds.take k))) ∧ Mod (fun _ => False) wo wk) (fun _ ck _ => ds.length - (intOf ck).toNat)
        case atStart => exact ⟨0, rfl, Nat.zero_le _, rfl, Mod.refl _ _⟩
        case round =>
          obtain ⟨kk, rfl, hkk, rfl, hMk⟩ := hrel
          obtain ⟨wk, ewk⟩ : ∃ wk, wk = wr := ⟨_, rfl⟩
          subst ewk
          have hMwk : Mod (fun _ => False) w wk := hMr.trans hMk (fun _ _ h => h) (fun _ _ h => h)
          obtain ⟨h1, h2⟩ := HD wk hMwk
          by_cases hkn : kk < ds.length
          · have hkn' : (kk : Int) < (ds.length : Int) := by go_light; omega
            have hkb' : (kk : Int) < 140737488355327 := by go_light; omega
            obtain ⟨d, hdk⟩ : ∃ d, ds[kk]? = some d := ⟨ds[kk], List.getElem?_eq_getElem hkn⟩
            have hbt := bd_take hdk
            cases hB : bd (ds.take kk) with
            | true =>
              rw [hB, Bool.true_or] at hbt
              have HBT : Hid (bd (ds.take (kk + 1)) = true) := hbt
              clear hbt hB hdk
              go_wp2_with (fail)
              go_roundw
              case rel => exact ⟨kk + 1, by go_num, hkn, by rw [HBT.out]; rfl, hMk⟩
              case measure => simp [intOf]; go_light; omega
            | false =>
              rw [hB, Bool.false_or] at hbt
              obtain ⟨bb, bo, rfl, hcc⟩ := hdf (by intro e; rw [e] at hkn; exact absurd hkn (Nat.not_lt_zero _))
              have hrg := range_mod (hcc kk d hdk) hMwk (fun h => h)
              have hsl := (hG.each d (List.mem_of_getElem? hdk)).1.mod hMwk (fun _ _ h => h)
              clear hcc hdk hB
              obtain ⟨⟨k, o, lf, i, p, ps, g, s, st, rs, rr, sq, l⟩, dv⟩ := d
              replace hsl : Sl wk dv l := hsl
              obtain ⟨ao, cap, rfl, _⟩ := hsl.form
              obtain ⟨c0, c1, c2, c3, c4, c5, c6, c7, c8, c9, c10, c11, c12⟩ := range13 hrg
              have HC := Check_any k o lf i p ps g s st rs rr sq ao cap l wk hsl
              clear hrg hsl
              simp only at hbt
              generalize chk ⟨k, o, lf, i, p, ps, g, s, st, rs, rr, sq, l⟩ = E at HC hbt
              have HBT : Hid (bd (ds.take (kk + 1)) = decide (E ≠ 0)) := hbt
              clear hbt
              go_wp2_with (fail)
              refine HC.mono ?_
              rintro e w3 ⟨rfl, hm3⟩
              clear HC c0 c1 c2 c3 c4 c5 c6 c7 c8 c9 c10 c11 c12
              go_wp2_with (fail)
              go_roundw
              case rel => exact ⟨kk + 1, by go_num, hkn, by rw [HBT.out]; by_cases hE : E = 0 <;> simp [hE], hMk.trans hm3 (fun _ _ h => h) (fun _ _ h => h)⟩
              case measure => simp [intOf]; go_light; omega
          · have ek : kk = ds.length := by go_light; omega
            subst ek
            rw [List.take_length]
            clear hkk hkn
            have hQk := hQ.mod hMk (fun _ _ h => h)
            have hRk := hR.mod hMk (fun _ _ _ h => h)
            have hGk := hG.mod hMwk (fun _ _ h => h)
            have hfar : Far X (.slice aj ds.length cj) ds := ⟨fun hne b' hb' hx => by
              obtain ⟨b2, o2, e2, hc2⟩ := hdf hne
              subst e2
              simp only [Value.ownBlock, Option.some.injEq] at hb'
              subst hb'
              have h0 : ∃ d, ds[0]? = some d := by cases ds with | nil => exact absurd rfl hne | cons a r => exact ⟨a, rfl⟩
              obtain ⟨d0, hd0⟩ := h0
              have := World.block_lt_of_cell? w _ (hc2 0 d0 hd0 0 _ rfl)
              exact absurd this (Nat.not_lt.2 (hX _ hx)), fun d hd hl b' hb' hx => absurd ((hG.each d hd).1.lt hl b' hb') (Nat.not_lt.2 (hX _ hx))⟩
            have HG : Hid (Mgs w (.slice aj ds.length cj) ds) := hG
            have HPut := Put_any hQk (.slice aj ds.length cj) ds hGk hfar
            clear hQ hR hMr hG hfar hdf
            go_wp2_with (fail)
            refine HPut.mono ?_
            rintro e w4 ⟨rfl, ⟨X4, hQ4, hX4⟩, hm4⟩
            have hR4 := hRk.modq hQk hm4
            have hqw : w.heap.size ≤ q := hX _ hQk.inX
            have hM4 : Mod (fun _ => False) w w4 := hMwk.trans hm4 (fun _ _ h => h) (fun b' hb' e => by subst e; exact absurd hb' (Nat.not_lt.2 hqw))
            have hX4' : ∀ b, X4 b → w.heap.size ≤ b := fun b' hb' => by
              rcases hX4 b' hb' with h | h
              · exact hX b' h
              · exact Nat.le_trans hMwk.size h
            obtain ⟨h1, h2⟩ := HD w4 hM4
            have hl32 := hQk.l32
            have hRl := hRk.len
            obtain ⟨ab, cb, eb⟩ := hRk.row.shape
            rw [hRl] at eb
            subst eb
            clear HPut hQk hRk hX hX4 hm4 hMk hMwk
            obtain ⟨E, hE⟩ : ∃ E, E = pE L ds := ⟨_, rfl⟩
            rw [← hE]
            have HE : Hid (E = pE L ds) := hE
            obtain ⟨BB, hBB⟩ : ∃ BB, BB = bd ds := ⟨_, rfl⟩
            rw [← hBB]
            have HBB : Hid (bd ds = BB) := hBB.symm
            clear hBB
            have HQ4 : Hid (Qu w4 q X4 (pL L ds)) := hQ4
            clear hE hQ4
            cases BB with
            | true =>
              have hB := HBB.out
              have e1 : pE L ds = 2 := by unfold pE; rw [if_pos hB]
              have e2 : pL L ds = L := by unfold pL; rw [if_neg (by rw [e1]; decide)]
              have hE := HE.out
              rw [e1] at hE
              subst hE
              have hq := HQ4.out
              rw [e2] at hq
              have HOd : Hid (Od w w4 q (.slice ab L.length cb) L) := ⟨X4, dsb, hq, hR4, hX4', hM4⟩
              clear e1 e2 hq HQ4 hR4 hX4' hM4 HE hB
              clear hl32 hRl h1 h2 HBB HG hGk hqw
              obtain ⟨L', hO'⟩ : ∃ L', Od w w4 q (.slice ab L.length cb) L' := ⟨L, HOd.out⟩
              clear HOd
              go_wp2_with (fail)
              go_loopw [4, 9, 10, 11] (fun v4 ck _ _ wk => ∃ (k : Nat) (L : List Ms), ck = .int .i64 (k : Int) ∧ k ≤ 40 ∧ Od w wk q v4 L) (fun _ ck _ _ _ => 40 - (intOf ck).toNat)
              case atStart => exact ⟨0, L', rfl, Nat.zero_le _, hO'⟩
              case round =>
                obtain ⟨kk, L, rfl, hkk, X, dsb, hQ, hR, hX, hMr⟩ := hrel
                clear hO'
                obtain ⟨wk, ewk⟩ : ∃ wk, wk = wr := ⟨_, rfl⟩
                subst ewk
                obtain ⟨h1, h2⟩ := HD wk hMr
                by_cases hk1 : (kk : Int) < tk
                · by_cases hk2 : kk < 40
                  · have hk2' : (kk : Int) < 40 := by go_light; omega
                    have hRl := hR.len
                    obtain ⟨ab, cb, eb⟩ := hR.row.shape
                    rw [hRl] at eb
                    subst eb
                    cases L with
                    | nil =>
                      have HTk := Take_empty hQ
                      go_wp2_with (fail)
                      refine HTk.mono ?_
                      rintro e w5 ⟨rfl, hm5⟩
                      have hA5 := (Mod.refl (fun _ => False) w5).alloc (.cells #[.int .i64 0, .int .i64 0, .int .i64 0, .int .i64 0, .int .i64 0, .int .i64 0, .int .i64 0, .bool false, .int .i64 0, .int .i64 0, .int .i64 0, .int .i64 0, .slice none 0 0] 40)
                      have hM5 := hm5.trans hA5 (V := fun _ => False) (fun _ _ h => h) (fun _ _ h => h)
                      have hQ5 := hQ.mod hM5 (fun _ _ h => h)
                      have HRm := Room_q hQ5
                      have HLn := Len_q hQ5
                      have HOd : Hid (Od w (w5.alloc (.cells #[.int .i64 0, .int .i64 0, .int .i64 0, .int .i64 0, .int .i64 0, .int .i64 0, .int .i64 0, .bool false, .int .i64 0, .int .i64 0, .int .i64 0, .int .i64 0, .slice none 0 0] 40)) q (.slice ab ([] : List Ms).length cb) []) := ⟨X, dsb, hQ5, hR.mod hM5 (fun _ _ _ h => h), hX, hMr.trans hM5 (fun _ _ h => h) (fun _ _ h => h)⟩
                      simp only [List.length_nil] at HLn HRm HOd ⊢
                      have e00 : ((0 : Nat) : Int) = 0 := rfl
                      rw [e00] at HLn HRm
                      clear hQ hR hX hMr hQ5 hM5 hA5 hm5 HTk hRl e00
                      go_wp2_with (fail)
                      refine HLn.mono ?_
                      rintro e w6 ⟨rfl, rfl⟩
                      go_wp2_with (fail)
                      refine HLn.mono ?_
                      rintro e w6 ⟨rfl, rfl⟩
                      go_wp2_with (fail)
                      refine HRm.mono ?_
                      rintro e w6 ⟨rfl, rfl⟩
                      go_wp2_with (fail)
                      go_roundw
                      case rel => exact ⟨j + 1, [], by go_num, hjn, HOd.out⟩
                      case measure => simp [intOf]; go_light; omega
                    | cons m L2 =>
                      obtain ⟨k, o, lf, i, p, ps, g, s, st, rs, rr, sq, l⟩ := m
                      have HTk := Take_some k o lf i p ps g s st rs rr sq l hQ
                      go_wp2_with (fail)
                      refine HTk.mono ?_
                      rintro e w5 ⟨am, cm, rfl, ho5, hr5, hQ5, hv5, hm5⟩
                      have hl32 := hQ.l32
                      simp only [List.length_cons] at hl32
                      have hR5 := hR.modq hQ hm5
                      have hqw : w.heap.size ≤ q := hX _ hQ.inX
                      have hM5 : Mod (fun _ => False) w w5 := hMr.trans hm5 (fun _ _ h => h) (fun b' hb' e => by subst e; exact absurd hb' (Nat.not_lt.2 hqw))
                      have hX5 : ∀ b, (X b ∧ (Value.slice am l.length cm).ownBlock ≠ some b) → w.heap.size ≤ b := fun b' hb' => hX b' hb'.1
                      clear HTk hQ hR hX hMr hm5 hv5
                      have hA5 := (Mod.refl (fun _ => False) w5).alloc (.cells #[.int .i64 k, .int .i64 o, .int .i64 lf, .int .i64 i, .int .i64 p, .int .i64 ps, .int .i64 g, .bool s, .int .i64 st, .int .i64 rs, .int .i64 rr, .int .i64 sq, .slice am l.length cm] 40)
                      have hMB := Bk.new w5 #[.int .i64 k, .int .i64 o, .int .i64 lf, .int .i64 i, .int .i64 p, .int .i64 ps, .int .i64 g, .bool s, .int .i64 st, .int .i64 rs, .int .i64 rr, .int .i64 sq, .slice am l.length cm] 40
                      have hMW := hM5.trans hA5 (V := fun _ => False) (fun _ _ h => h) (fun _ _ h => h)
                      have hQW := hQ5.mod hA5 (fun _ _ h => h)
                      have hRW := hR5.mod hA5 (fun _ _ _ h => h)
                      have hoW := ho5.mod hA5 (fun _ _ h => h)
                      clear hQ5 hR5 hM5 ho5 hA5
                      simp only [List.length_cons] at hRW hRl ⊢
                      have hLn : ¬ (L2.length : Int) + 1 = 0 := by go_light; omega
                      have hLl : (L2.length : Int) + 1 ≤ 32 := by go_light; omega
                      go_upto_region 30 with (fail)
                      generalize w5.alloc (.cells #[.int .i64 k, .int .i64 o, .int .i64 lf, .int .i64 i, .int .i64 p, .int .i64 ps, .int .i64 g, .bool s, .int .i64 st, .int .i64 rs, .int .i64 rr, .int .i64 sq, .slice am l.length cm] 40) = W at *
                      generalize w5.heap.size = mb at *
                      obtain ⟨d0, dsr, rfl⟩ : ∃ d0 dsr, dsb = d0 :: dsr := by
                        cases dsb with
                        | nil => simp at hRl
                        | cons a r => exact ⟨a, r, rfl⟩
                      have hms := hRW.ms
                      simp only [List.map_cons, List.cons.injEq] at hms
                      obtain ⟨dm, v0⟩ := d0
                      simp only at hms
                      obtain ⟨rfl, hmr⟩ := hms
                      obtain ⟨ho0, hr0, _⟩ := hRW.each _ (List.mem_cons_self ..)
                      replace ho0 : Own W v0 l := ho0
                      obtain ⟨a0, c0, rfl⟩ := ho0.shape
                      obtain ⟨ag, cg, eg, hle, hg⟩ := hRW.row.form
                      simp only [List.length_cons, Value.slice.injEq] at eg
                      obtain ⟨rfl, erl, rfl⟩ := eg
                      have erl2 : dsr.length = L2.length := by go_light; omega
                      rcases hg with ⟨rfl, hcb⟩ | ⟨gb, ob, cur, rfl, hBg, hsz, hcells⟩
                      · rw [hcb] at hle
                        simp at hle
                      have hrg : W.rangeAt gb ob (mcl ⟨k, o, lf, i, p, ps, g, s, st, rs, rr, sq, l⟩ (.slice a0 l.length c0)) := hBg.range _ _ fun j c hj => hcells j c (by
                        have := fm_get ((⟨k, o, lf, i, p, ps, g, s, st, rs, rr, sq, l⟩, .slice a0 l.length c0) :: dsr) 0 _ rfl j c hj
                        simpa using this)
                      obtain ⟨q0, q1, q2, q3, q4, q5, q6, q7, q8, q9, q10, q11, q12⟩ := range13 hrg
                      have m0 : W.cell? ⟨mb, 0, none⟩ = some (.int .i64 k) := hMB.cellv (j := 0) rfl
                      have m1 : W.cell? ⟨mb, 1, none⟩ = some (.int .i64 o) := hMB.cellv (j := 1) rfl
                      have m2 : W.cell? ⟨mb, 2, none⟩ = some (.int .i64 lf) := hMB.cellv (j := 2) rfl
                      have m3 : W.cell? ⟨mb, 3, none⟩ = some (.int .i64 i) := hMB.cellv (j := 3) rfl
                      have m4 : W.cell? ⟨mb, 4, none⟩ = some (.int .i64 p) := hMB.cellv (j := 4) rfl
                      have m5 : W.cell? ⟨mb, 5, none⟩ = some (.int .i64 ps) := hMB.cellv (j := 5) rfl
                      have m6 : W.cell? ⟨mb, 6, none⟩ = some (.int .i64 g) := hMB.cellv (j := 6) rfl
                      have m7 : W.cell? ⟨mb, 7, none⟩ = some (.bool s) := hMB.cellv (j := 7) rfl
                      have m8 : W.cell? ⟨mb, 8, none⟩ = some (.int .i64 st) := hMB.cellv (j := 8) rfl
                      have m9 : W.cell? ⟨mb, 9, none⟩ = some (.int .i64 rs) := hMB.cellv (j := 9) rfl
                      have m10 : W.cell? ⟨mb, 10, none⟩ = some (.int .i64 rr) := hMB.cellv (j := 10) rfl
                      have m11 : W.cell? ⟨mb, 11, none⟩ = some (.int .i64 sq) := hMB.cellv (j := 11) rfl
                      have m12 : W.cell? ⟨mb, 12, none⟩ = some (.slice am l.length cm) := hMB.cellv (j := 12) rfl
                      have HS := Same_eq k o lf i p ps g s st rs rr sq am a0 cm c0 l W.drew ((hoW.mod ((Mod.refl (fun _ => False) W).drew) (fun _ _ h => h)).sl hr5) ((ho0.mod ((Mod.refl (fun _ => False) W).drew) (fun _ _ h => h)).sl hr5)
                      have HS2 : Calls Try.prog 12 #[.agg #[.int .i64 k, .int .i64 o, .int .i64 lf, .int .i64 i, .int .i64 p, .int .i64 ps, .int .i64 g, .bool s, .int .i64 st, .int .i64 rs, .int .i64 rr, .int .i64 sq, .slice am l.length cm], .agg #[.int .i64 k, .int .i64 o, .int .i64 lf, .int .i64 i, .int .i64 p, .int .i64 ps, .int .i64 g, .bool s, .int .i64 st, .int .i64 rs, .int .i64 rr, .int .i64 sq, .slice a0 l.length c0]] W.drew fun e w' => ∃ r, e = .returned r ∧ (r = .bool true ∧ Mod (fun _ => False) W.drew w') := HS.mono fun e w' h => ⟨_, h.1, rfl, h.2⟩
                      have HQW : Hid (Qu W q _ L2) := hQW
                      have HRW : Hid (Rn W w.heap.size (.slice (some ⟨gb, ob, none⟩) (L2.length + 1) cb) (⟨k, o, lf, i, p, ps, g, s, st, rs, rr, sq, l⟩ :: L2) ((⟨k, o, lf, i, p, ps, g, s, st, rs, rr, sq, l⟩, .slice a0 l.length c0) :: dsr)) := hRW
                      have HMW : Hid (Mod (fun _ => False) w W) := hMW
                      have HER : Hid (dsr.length = L2.length) := erl2
                      have hDr := (Mod.refl (fun _ => False) W).drew
                      clear HS hQW hRW hMW hMB hoW ho0 hr0 hBg hsz hcells hrg hmr erl erl2
                      go_cut [115] (fun s wx => s = .bool false ∧ Mod (fun _ => False) W wx)
                      case first =>
                        go_region_law (refine step_c2 (fun args w => by simp [go_sem]) (by rfl) _ _ (by rfl) (by rfl) _ _ (by rfl) (by rfl) _ HS2 ?_; rintro r w7 ⟨rfl, hm7⟩)
                        all_goals go_wp2_with (fail)
                        all_goals go_meet
                        all_goals exact ⟨rfl, hDr.trans hm7 (fun _ _ h => h) (fun _ _ h => h)⟩
                      case rest =>
                      obtain ⟨e115, hm8⟩ := hcut
                      subst e115
                      generalize wc = w8 at *
                      have hR8 := HRW.out.mod hm8 (fun _ _ _ h => h)
                      rw [← HER.out] at hR8
                      have hT8 := hR8.tail
                      rw [HER.out] at hT8
                      have HOd : Hid (Od w w8 q (.slice (if cb = 1 then some ⟨gb, ob, none⟩ else (some ⟨gb, ob, none⟩ : Option Addr).map (·.add 13)) L2.length (cb - 1)) L2) := ⟨_, _, HQW.out.mod hm8 (fun _ _ h => h), hT8, hX5, HMW.out.trans hm8 (fun _ _ h => h) (fun _ _ h => h)⟩
                      clear hR8 hT8 HQW HRW HMW hm8 hX5 m0 m1 m2 m3 m4 m5 m6 m7 m8 m9 m10 m11 m12 q0 q1 q2 q3 q4 q5 q6 q7 q8 q9 q10 q11 q12 HS2 hDr
                      go_wp2_with (refine wpList_val rfl (exec_cutM rfl rfl rfl) ?_; simp only [Act.put, List.setIfInBounds_toArray, List.set_cons_succ, List.set_cons_zero])
                      go_roundw
                      case rel => exact ⟨kk + 1, L2, by go_num, hk2, HOd.out⟩
                      case measure => simp [intOf]; go_light; omega
                  · have hk2' : ¬ (kk : Int) < 40 := by go_light; omega
                    have HRm := Room_q hQ
                    have HLn := Len_q hQ
                    have hl32 : (L.length : Int) ≤ 32 := by have := hQ.l32; go_light; omega
                    have hRl := hR.len
                    obtain ⟨ab, cb, eb⟩ := hR.row.shape
                    rw [hRl] at eb
                    subst eb
                    have HOd : Hid (Od w wk q (.slice ab L.length cb) L) := ⟨X, dsb, hQ, hR, hX, hMr⟩
                    have e32 : (L.length : Int) + (32 - (L.length : Int)) = 32 := by go_light; omega
                    clear hQ hR hX hMr hRl
                    go_wp2_with (fail)
                    refine HLn.mono ?_
                    rintro e wk ⟨rfl, rfl⟩
                    go_wp2_with (fail)
                    refine HLn.mono ?_
                    rintro e wk ⟨rfl, rfl⟩
                    go_wp2_with (fail)
                    refine HRm.mono ?_
                    rintro e wk ⟨rfl, rfl⟩
                    go_wp2_with (fail)
                    go_roundw
                    case rel => exact ⟨j + 1, L, by go_num, hjn, HOd.out⟩
                    case measure => simp [intOf]; go_light; omega
                · have HRm := Room_q hQ
                  have HLn := Len_q hQ
                  have hl32 : (L.length : Int) ≤ 32 := by have := hQ.l32; go_light; omega
                  have hRl := hR.len
                  obtain ⟨ab, cb, eb⟩ := hR.row.shape
                  rw [hRl] at eb
                  subst eb
                  have HOd : Hid (Od w wk q (.slice ab L.length cb) L) := ⟨X, dsb, hQ, hR, hX, hMr⟩
                  have e32 : (L.length : Int) + (32 - (L.length : Int)) = 32 := by go_light; omega
                  clear hQ hR hX hMr hRl
                  go_wp2_with (fail)
                  refine HLn.mono ?_
                  rintro e wk ⟨rfl, rfl⟩
                  go_wp2_with (fail)
                  refine HLn.mono ?_
                  rintro e wk ⟨rfl, rfl⟩
                  go_wp2_with (fail)
                  refine HRm.mono ?_
                  rintro e wk ⟨rfl, rfl⟩
                  go_wp2_with (fail)
                  go_roundw
                  case rel => exact ⟨j + 1, L, by go_num, hjn, HOd.out⟩
                  case measure => simp [intOf]; go_light; omega
            | false =>
              have hB := HBB.out
              by_cases hf : 32 < L.length + ds.length
              · have e1 : pE L ds = 7 := by unfold pE; rw [if_neg (by rw [hB]; decide), if_pos hf]
                have e2 : pL L ds = L := by unfold pL; rw [if_neg (by rw [e1]; decide)]
                have hE := HE.out
                rw [e1] at hE
                subst hE
                have hq := HQ4.out
                rw [e2] at hq
                have HOd : Hid (Od w w4 q (.slice ab L.length cb) L) := ⟨X4, dsb, hq, hR4, hX4', hM4⟩
                have hf' : (32 : Int) < (L.length : Int) + (ds.length : Int) := by go_light; omega
                have hl' : (L.length : Int) ≤ 32 := by go_light; omega
                clear e1 e2 hq HQ4 hR4 hX4' hM4 HE hB
                clear hl32 hRl h2 HBB HG hGk hqw
                obtain ⟨L', hO'⟩ : ∃ L', Od w w4 q (.slice ab L.length cb) L' := ⟨L, HOd.out⟩
                clear HOd
                go_wp2_with (fail)
                go_loopw [4, 9, 10, 11] (fun v4 ck _ _ wk => ∃ (k : Nat) (L : List Ms), ck = .int .i64 (k : Int) ∧ k ≤ 40 ∧ Od w wk q v4 L) (fun _ ck _ _ _ => 40 - (intOf ck).toNat)
                case atStart => exact ⟨0, L', rfl, Nat.zero_le _, hO'⟩
                case round =>
                  obtain ⟨kk, L, rfl, hkk, X, dsb, hQ, hR, hX, hMr⟩ := hrel
                  clear hO'
                  obtain ⟨wk, ewk⟩ : ∃ wk, wk = wr := ⟨_, rfl⟩
                  subst ewk
                  obtain ⟨h1, h2⟩ := HD wk hMr
                  by_cases hk1 : (kk : Int) < tk
                  · by_cases hk2 : kk < 40
                    · have hk2' : (kk : Int) < 40 := by go_light; omega
                      have hRl := hR.len
                      obtain ⟨ab, cb, eb⟩ := hR.row.shape
                      rw [hRl] at eb
                      subst eb
                      cases L with
                      | nil =>
                        have HTk := Take_empty hQ
                        go_wp2_with (fail)
                        refine HTk.mono ?_
                        rintro e w5 ⟨rfl, hm5⟩
                        have hA5 := (Mod.refl (fun _ => False) w5).alloc (.cells #[.int .i64 0, .int .i64 0, .int .i64 0, .int .i64 0, .int .i64 0, .int .i64 0, .int .i64 0, .bool false, .int .i64 0, .int .i64 0, .int .i64 0, .int .i64 0, .slice none 0 0] 40)
                        have hM5 := hm5.trans hA5 (V := fun _ => False) (fun _ _ h => h) (fun _ _ h => h)
                        have hQ5 := hQ.mod hM5 (fun _ _ h => h)
                        have HRm := Room_q hQ5
                        have HLn := Len_q hQ5
                        have HOd : Hid (Od w (w5.alloc (.cells #[.int .i64 0, .int .i64 0, .int .i64 0, .int .i64 0, .int .i64 0, .int .i64 0, .int .i64 0, .bool false, .int .i64 0, .int .i64 0, .int .i64 0, .int .i64 0, .slice none 0 0] 40)) q (.slice ab ([] : List Ms).length cb) []) := ⟨X, dsb, hQ5, hR.mod hM5 (fun _ _ _ h => h), hX, hMr.trans hM5 (fun _ _ h => h) (fun _ _ h => h)⟩
                        simp only [List.length_nil] at HLn HRm HOd ⊢
                        have e00 : ((0 : Nat) : Int) = 0 := rfl
                        rw [e00] at HLn HRm
                        clear hQ hR hX hMr hQ5 hM5 hA5 hm5 HTk hRl e00
                        go_wp2_with (fail)
                        refine HLn.mono ?_
                        rintro e w6 ⟨rfl, rfl⟩
                        go_wp2_with (fail)
                        refine HLn.mono ?_
                        rintro e w6 ⟨rfl, rfl⟩
                        go_wp2_with (fail)
                        refine HRm.mono ?_
                        rintro e w6 ⟨rfl, rfl⟩
                        go_wp2_with (fail)
                        go_roundw
                        case rel => exact ⟨j + 1, [], by go_num, hjn, HOd.out⟩
                        case measure => simp [intOf]; go_light; omega
                      | cons m L2 =>
                        obtain ⟨k, o, lf, i, p, ps, g, s, st, rs, rr, sq, l⟩ := m
                        have HTk := Take_some k o lf i p ps g s st rs rr sq l hQ
                        go_wp2_with (fail)
                        refine HTk.mono ?_
                        rintro e w5 ⟨am, cm, rfl, ho5, hr5, hQ5, hv5, hm5⟩
                        have hl32 := hQ.l32
                        simp only [List.length_cons] at hl32
                        have hR5 := hR.modq hQ hm5
                        have hqw : w.heap.size ≤ q := hX _ hQ.inX
                        have hM5 : Mod (fun _ => False) w w5 := hMr.trans hm5 (fun _ _ h => h) (fun b' hb' e => by subst e; exact absurd hb' (Nat.not_lt.2 hqw))
                        have hX5 : ∀ b, (X b ∧ (Value.slice am l.length cm).ownBlock ≠ some b) → w.heap.size ≤ b := fun b' hb' => hX b' hb'.1
                        clear HTk hQ hR hX hMr hm5 hv5
                        have hA5 := (Mod.refl (fun _ => False) w5).alloc (.cells #[.int .i64 k, .int .i64 o, .int .i64 lf, .int .i64 i, .int .i64 p, .int .i64 ps, .int .i64 g, .bool s, .int .i64 st, .int .i64 rs, .int .i64 rr, .int .i64 sq, .slice am l.length cm] 40)
                        have hMB := Bk.new w5 #[.int .i64 k, .int .i64 o, .int .i64 lf, .int .i64 i, .int .i64 p, .int .i64 ps, .int .i64 g, .bool s, .int .i64 st, .int .i64 rs, .int .i64 rr, .int .i64 sq, .slice am l.length cm] 40
                        have hMW := hM5.trans hA5 (V := fun _ => False) (fun _ _ h => h) (fun _ _ h => h)
                        have hQW := hQ5.mod hA5 (fun _ _ h => h)
                        have hRW := hR5.mod hA5 (fun _ _ _ h => h)
                        have hoW := ho5.mod hA5 (fun _ _ h => h)
                        clear hQ5 hR5 hM5 ho5 hA5
                        simp only [List.length_cons] at hRW hRl ⊢
                        have hLn : ¬ (L2.length : Int) + 1 = 0 := by go_light; omega
                        have hLl : (L2.length : Int) + 1 ≤ 32 := by go_light; omega
                        go_upto_region 30 with (fail)
                        generalize w5.alloc (.cells #[.int .i64 k, .int .i64 o, .int .i64 lf, .int .i64 i, .int .i64 p, .int .i64 ps, .int .i64 g, .bool s, .int .i64 st, .int .i64 rs, .int .i64 rr, .int .i64 sq, .slice am l.length cm] 40) = W at *
                        generalize w5.heap.size = mb at *
                        obtain ⟨d0, dsr, rfl⟩ : ∃ d0 dsr, dsb = d0 :: dsr := by
                          cases dsb with
                          | nil => simp at hRl
                          | cons a r => exact ⟨a, r, rfl⟩
                        have hms := hRW.ms
                        simp only [List.map_cons, List.cons.injEq] at hms
                        obtain ⟨dm, v0⟩ := d0
                        simp only at hms
                        obtain ⟨rfl, hmr⟩ := hms
                        obtain ⟨ho0, hr0, _⟩ := hRW.each _ (List.mem_cons_self ..)
                        replace ho0 : Own W v0 l := ho0
                        obtain ⟨a0, c0, rfl⟩ := ho0.shape
                        obtain ⟨ag, cg, eg, hle, hg⟩ := hRW.row.form
                        simp only [List.length_cons, Value.slice.injEq] at eg
                        obtain ⟨rfl, erl, rfl⟩ := eg
                        have erl2 : dsr.length = L2.length := by go_light; omega
                        rcases hg with ⟨rfl, hcb⟩ | ⟨gb, ob, cur, rfl, hBg, hsz, hcells⟩
                        · rw [hcb] at hle
                          simp at hle
                        have hrg : W.rangeAt gb ob (mcl ⟨k, o, lf, i, p, ps, g, s, st, rs, rr, sq, l⟩ (.slice a0 l.length c0)) := hBg.range _ _ fun j c hj => hcells j c (by
                          have := fm_get ((⟨k, o, lf, i, p, ps, g, s, st, rs, rr, sq, l⟩, .slice a0 l.length c0) :: dsr) 0 _ rfl j c hj
                          simpa using this)
                        obtain ⟨q0, q1, q2, q3, q4, q5, q6, q7, q8, q9, q10, q11, q12⟩ := range13 hrg
                        have m0 : W.cell? ⟨mb, 0, none⟩ = some (.int .i64 k) := hMB.cellv (j := 0) rfl
                        have m1 : W.cell? ⟨mb, 1, none⟩ = some (.int .i64 o) := hMB.cellv (j := 1) rfl
                        have m2 : W.cell? ⟨mb, 2, none⟩ = some (.int .i64 lf) := hMB.cellv (j := 2) rfl
                        have m3 : W.cell? ⟨mb, 3, none⟩ = some (.int .i64 i) := hMB.cellv (j := 3) rfl
                        have m4 : W.cell? ⟨mb, 4, none⟩ = some (.int .i64 p) := hMB.cellv (j := 4) rfl
                        have m5 : W.cell? ⟨mb, 5, none⟩ = some (.int .i64 ps) := hMB.cellv (j := 5) rfl
                        have m6 : W.cell? ⟨mb, 6, none⟩ = some (.int .i64 g) := hMB.cellv (j := 6) rfl
                        have m7 : W.cell? ⟨mb, 7, none⟩ = some (.bool s) := hMB.cellv (j := 7) rfl
                        have m8 : W.cell? ⟨mb, 8, none⟩ = some (.int .i64 st) := hMB.cellv (j := 8) rfl
                        have m9 : W.cell? ⟨mb, 9, none⟩ = some (.int .i64 rs) := hMB.cellv (j := 9) rfl
                        have m10 : W.cell? ⟨mb, 10, none⟩ = some (.int .i64 rr) := hMB.cellv (j := 10) rfl
                        have m11 : W.cell? ⟨mb, 11, none⟩ = some (.int .i64 sq) := hMB.cellv (j := 11) rfl
                        have m12 : W.cell? ⟨mb, 12, none⟩ = some (.slice am l.length cm) := hMB.cellv (j := 12) rfl
                        have HS := Same_eq k o lf i p ps g s st rs rr sq am a0 cm c0 l W.drew ((hoW.mod ((Mod.refl (fun _ => False) W).drew) (fun _ _ h => h)).sl hr5) ((ho0.mod ((Mod.refl (fun _ => False) W).drew) (fun _ _ h => h)).sl hr5)
                        have HS2 : Calls Try.prog 12 #[.agg #[.int .i64 k, .int .i64 o, .int .i64 lf, .int .i64 i, .int .i64 p, .int .i64 ps, .int .i64 g, .bool s, .int .i64 st, .int .i64 rs, .int .i64 rr, .int .i64 sq, .slice am l.length cm], .agg #[.int .i64 k, .int .i64 o, .int .i64 lf, .int .i64 i, .int .i64 p, .int .i64 ps, .int .i64 g, .bool s, .int .i64 st, .int .i64 rs, .int .i64 rr, .int .i64 sq, .slice a0 l.length c0]] W.drew fun e w' => ∃ r, e = .returned r ∧ (r = .bool true ∧ Mod (fun _ => False) W.drew w') := HS.mono fun e w' h => ⟨_, h.1, rfl, h.2⟩
                        have HQW : Hid (Qu W q _ L2) := hQW
                        have HRW : Hid (Rn W w.heap.size (.slice (some ⟨gb, ob, none⟩) (L2.length + 1) cb) (⟨k, o, lf, i, p, ps, g, s, st, rs, rr, sq, l⟩ :: L2) ((⟨k, o, lf, i, p, ps, g, s, st, rs, rr, sq, l⟩, .slice a0 l.length c0) :: dsr)) := hRW
                        have HMW : Hid (Mod (fun _ => False) w W) := hMW
                        have HER : Hid (dsr.length = L2.length) := erl2
                        have hDr := (Mod.refl (fun _ => False) W).drew
                        clear HS hQW hRW hMW hMB hoW ho0 hr0 hBg hsz hcells hrg hmr erl erl2
                        go_cut [115] (fun s wx => s = .bool false ∧ Mod (fun _ => False) W wx)
                        case first =>
                          go_region_law (refine step_c2 (fun args w => by simp [go_sem]) (by rfl) _ _ (by rfl) (by rfl) _ _ (by rfl) (by rfl) _ HS2 ?_; rintro r w7 ⟨rfl, hm7⟩)
                          all_goals go_wp2_with (fail)
                          all_goals go_meet
                          all_goals exact ⟨rfl, hDr.trans hm7 (fun _ _ h => h) (fun _ _ h => h)⟩
                        case rest =>
                        obtain ⟨e115, hm8⟩ := hcut
                        subst e115
                        generalize wc = w8 at *
                        have hR8 := HRW.out.mod hm8 (fun _ _ _ h => h)
                        rw [← HER.out] at hR8
                        have hT8 := hR8.tail
                        rw [HER.out] at hT8
                        have HOd : Hid (Od w w8 q (.slice (if cb = 1 then some ⟨gb, ob, none⟩ else (some ⟨gb, ob, none⟩ : Option Addr).map (·.add 13)) L2.length (cb - 1)) L2) := ⟨_, _, HQW.out.mod hm8 (fun _ _ h => h), hT8, hX5, HMW.out.trans hm8 (fun _ _ h => h) (fun _ _ h => h)⟩
                        clear hR8 hT8 HQW HRW HMW hm8 hX5 m0 m1 m2 m3 m4 m5 m6 m7 m8 m9 m10 m11 m12 q0 q1 q2 q3 q4 q5 q6 q7 q8 q9 q10 q11 q12 HS2 hDr
                        go_wp2_with (refine wpList_val rfl (exec_cutM rfl rfl rfl) ?_; simp only [Act.put, List.setIfInBounds_toArray, List.set_cons_succ, List.set_cons_zero])
                        go_roundw
                        case rel => exact ⟨kk + 1, L2, by go_num, hk2, HOd.out⟩
                        case measure => simp [intOf]; go_light; omega
                    · have hk2' : ¬ (kk : Int) < 40 := by go_light; omega
                      have HRm := Room_q hQ
                      have HLn := Len_q hQ
                      have hl32 : (L.length : Int) ≤ 32 := by have := hQ.l32; go_light; omega
                      have hRl := hR.len
                      obtain ⟨ab, cb, eb⟩ := hR.row.shape
                      rw [hRl] at eb
                      subst eb
                      have HOd : Hid (Od w wk q (.slice ab L.length cb) L) := ⟨X, dsb, hQ, hR, hX, hMr⟩
                      have e32 : (L.length : Int) + (32 - (L.length : Int)) = 32 := by go_light; omega
                      clear hQ hR hX hMr hRl
                      go_wp2_with (fail)
                      refine HLn.mono ?_
                      rintro e wk ⟨rfl, rfl⟩
                      go_wp2_with (fail)
                      refine HLn.mono ?_
                      rintro e wk ⟨rfl, rfl⟩
                      go_wp2_with (fail)
                      refine HRm.mono ?_
                      rintro e wk ⟨rfl, rfl⟩
                      go_wp2_with (fail)
                      go_roundw
                      case rel => exact ⟨j + 1, L, by go_num, hjn, HOd.out⟩
                      case measure => simp [intOf]; go_light; omega
                  · have HRm := Room_q hQ
                    have HLn := Len_q hQ
                    have hl32 : (L.length : Int) ≤ 32 := by have := hQ.l32; go_light; omega
                    have hRl := hR.len
                    obtain ⟨ab, cb, eb⟩ := hR.row.shape
                    rw [hRl] at eb
                    subst eb
                    have HOd : Hid (Od w wk q (.slice ab L.length cb) L) := ⟨X, dsb, hQ, hR, hX, hMr⟩
                    have e32 : (L.length : Int) + (32 - (L.length : Int)) = 32 := by go_light; omega
                    clear hQ hR hX hMr hRl
                    go_wp2_with (fail)
                    refine HLn.mono ?_
                    rintro e wk ⟨rfl, rfl⟩
                    go_wp2_with (fail)
                    refine HLn.mono ?_
                    rintro e wk ⟨rfl, rfl⟩
                    go_wp2_with (fail)
                    refine HRm.mono ?_
                    rintro e wk ⟨rfl, rfl⟩
                    go_wp2_with (fail)
                    go_roundw
                    case rel => exact ⟨j + 1, L, by go_num, hjn, HOd.out⟩
                    case measure => simp [intOf]; go_light; omega
              · have e1 : pE L ds = 0 := by unfold pE; rw [if_neg (by rw [hB]; decide), if_neg hf]
                have e2 : pL L ds = L ++ ds.map (·.1) := by unfold pL; rw [if_pos e1]
                have hE := HE.out
                rw [e1] at hE
                subst hE
                have hq := HQ4.out
                rw [e2] at hq
                have HCp := copies_any (.slice aj ds.length cj) ds w4 (HG.out.mod hM4 (fun _ _ h => h))
                have hf' : ¬ (32 : Int) < (L.length : Int) + (ds.length : Int) := by go_light; omega
                have hl' : (L.length : Int) ≤ 32 := by go_light; omega
                have HR4 : Hid (Rn w4 w.heap.size (.slice ab L.length cb) L dsb) := hR4
                have HQq : Hid (Qu w4 q X4 (L ++ ds.map (·.1))) := hq
                have HXM : Hid ((∀ b, X4 b → w.heap.size ≤ b) ∧ Mod (fun _ => False) w w4 ∧ L.length + ds.length ≤ 32) := ⟨hX4', hM4, Nat.not_lt.1 hf⟩
                clear e1 e2 hq HQ4 hR4 hX4' hM4 HE hB hf
                go_wp2_with (fail)
                refine HCp.mono ?_
                rintro e w5 ⟨v5, cs, rfl, hC5, hm5⟩
                clear HCp
                have hrw := HR4.out.row.mod hm5 (fun _ _ h => h)
                have hsc := Sc.of hC5.row (fun d hd => (hC5.each d hd).1.one')
                have hcl : cs.length = ds.length := by rw [hC5.len, List.length_map]
                have hbl : dsb.length = L.length := HR4.out.len
                have HH : Hid ((L.length + ds.length) = dsb.length + cs.length ∧ (dsb.length + cs.length) * 120 ≤ 140737488355328) := ⟨by rw [hcl, hbl], by rw [hcl, hbl]; have := HXM.out.2.2; go_light; omega⟩
                have HM5 : Hid (Mod (fun _ => False) w4 w5) := hm5
                have HC5 : Hid (Rn w5 w4.heap.size v5 (ds.map (·.1)) cs) := hC5
                clear hm5 hC5 hcl hbl
                go_upto_region 23 with (refine wpList_appM rfl _ _ rfl (.slice ab L.length cb) v5 dsb cs rfl rfl hrw hsc HH.out.2 (L.length + ds.length) HH.out.1 ?_; intro ax cx w6 hr6 hm6 hf6; simp only [Act.put, List.setIfInBounds_toArray, List.set_cons_succ, List.set_cons_zero])
                have hsz := HXM.out.2.1.size
                obtain ⟨L', hO'⟩ : ∃ L', Od w w6 q (.slice ax (L.length + ds.length) cx) L' := by
                  refine ⟨L ++ ds.map (·.1), X4, dsb ++ cs, (HQq.out.mod HM5.out (fun _ _ h => h)).modK hm6 (fun b' hb' => ?_), HR4.out.app HM5.out HC5.out hsz hr6 hm6 hf6 (Nat.le_trans hsz HM5.out.size), HXM.out.1, (HXM.out.2.1.trans HM5.out (V := fun _ => False) (fun _ _ h => h) (fun _ _ h => h)).trans hm6 (fun _ _ h => h) (fun b' hb' e => absurd hb' (Nat.not_lt.2 (HR4.out.new b' e)))⟩
                  obtain ⟨c6, hc6⟩ := hrw.kind hb'
                  refine ⟨fun e => ?_, fun cur hcur => ?_⟩
                  · obtain ⟨cq, hk⟩ := (HQq.out.mod HM5.out (fun _ _ h => h)).kind
                    rw [← e, hc6] at hk
                    simp at hk
                  · rw [hc6] at hcur
                    simp at hcur
                clear hr6 hm6 hf6 hrw hsc HH HM5 HC5 hsz HR4 HQq HXM h1 h2 HBB HG hGk hqw hl32 hRl
                go_wp2_with (fail)
                go_loopw [4, 9, 10, 11] (fun v4 ck _ _ wk => ∃ (k : Nat) (L : List Ms), ck = .int .i64 (k : Int) ∧ k ≤ 40 ∧ Od w wk q v4 L) (fun _ ck _ _ _ => 40 - (intOf ck).toNat)
                case atStart => exact ⟨0, L', rfl, Nat.zero_le _, hO'⟩
                case round =>
                  obtain ⟨kk, L, rfl, hkk, X, dsb, hQ, hR, hX, hMr⟩ := hrel
                  clear hO'
                  obtain ⟨wk, ewk⟩ : ∃ wk, wk = wr := ⟨_, rfl⟩
                  subst ewk
                  obtain ⟨h1, h2⟩ := HD wk hMr
                  by_cases hk1 : (kk : Int) < tk
                  · by_cases hk2 : kk < 40
                    · have hk2' : (kk : Int) < 40 := by go_light; omega
                      have hRl := hR.len
                      obtain ⟨ab, cb, eb⟩ := hR.row.shape
                      rw [hRl] at eb
                      subst eb
                      cases L with
                      | nil =>
                        have HTk := Take_empty hQ
                        go_wp2_with (fail)
                        refine HTk.mono ?_
                        rintro e w5 ⟨rfl, hm5⟩
                        have hA5 := (Mod.refl (fun _ => False) w5).alloc (.cells #[.int .i64 0, .int .i64 0, .int .i64 0, .int .i64 0, .int .i64 0, .int .i64 0, .int .i64 0, .bool false, .int .i64 0, .int .i64 0, .int .i64 0, .int .i64 0, .slice none 0 0] 40)
                        have hM5 := hm5.trans hA5 (V := fun _ => False) (fun _ _ h => h) (fun _ _ h => h)
                        have hQ5 := hQ.mod hM5 (fun _ _ h => h)
                        have HRm := Room_q hQ5
                        have HLn := Len_q hQ5
                        have HOd : Hid (Od w (w5.alloc (.cells #[.int .i64 0, .int .i64 0, .int .i64 0, .int .i64 0, .int .i64 0, .int .i64 0, .int .i64 0, .bool false, .int .i64 0, .int .i64 0, .int .i64 0, .int .i64 0, .slice none 0 0] 40)) q (.slice ab ([] : List Ms).length cb) []) := ⟨X, dsb, hQ5, hR.mod hM5 (fun _ _ _ h => h), hX, hMr.trans hM5 (fun _ _ h => h) (fun _ _ h => h)⟩
                        simp only [List.length_nil] at HLn HRm HOd ⊢
                        have e00 : ((0 : Nat) : Int) = 0 := rfl
                        rw [e00] at HLn HRm
                        clear hQ hR hX hMr hQ5 hM5 hA5 hm5 HTk hRl e00
                        go_wp2_with (fail)
                        refine HLn.mono ?_
                        rintro e w6 ⟨rfl, rfl⟩
                        go_wp2_with (fail)
                        refine HLn.mono ?_
                        rintro e w6 ⟨rfl, rfl⟩
                        go_wp2_with (fail)
                        refine HRm.mono ?_
                        rintro e w6 ⟨rfl, rfl⟩
                        go_wp2_with (fail)
                        go_roundw
                        case rel => exact ⟨j + 1, [], by go_num, hjn, HOd.out⟩
                        case measure => simp [intOf]; go_light; omega
                      | cons m L2 =>
                        obtain ⟨k, o, lf, i, p, ps, g, s, st, rs, rr, sq, l⟩ := m
                        have HTk := Take_some k o lf i p ps g s st rs rr sq l hQ
                        go_wp2_with (fail)
                        refine HTk.mono ?_
                        rintro e w5 ⟨am, cm, rfl, ho5, hr5, hQ5, hv5, hm5⟩
                        have hl32 := hQ.l32
                        simp only [List.length_cons] at hl32
                        have hR5 := hR.modq hQ hm5
                        have hqw : w.heap.size ≤ q := hX _ hQ.inX
                        have hM5 : Mod (fun _ => False) w w5 := hMr.trans hm5 (fun _ _ h => h) (fun b' hb' e => by subst e; exact absurd hb' (Nat.not_lt.2 hqw))
                        have hX5 : ∀ b, (X b ∧ (Value.slice am l.length cm).ownBlock ≠ some b) → w.heap.size ≤ b := fun b' hb' => hX b' hb'.1
                        clear HTk hQ hR hX hMr hm5 hv5
                        have hA5 := (Mod.refl (fun _ => False) w5).alloc (.cells #[.int .i64 k, .int .i64 o, .int .i64 lf, .int .i64 i, .int .i64 p, .int .i64 ps, .int .i64 g, .bool s, .int .i64 st, .int .i64 rs, .int .i64 rr, .int .i64 sq, .slice am l.length cm] 40)
                        have hMB := Bk.new w5 #[.int .i64 k, .int .i64 o, .int .i64 lf, .int .i64 i, .int .i64 p, .int .i64 ps, .int .i64 g, .bool s, .int .i64 st, .int .i64 rs, .int .i64 rr, .int .i64 sq, .slice am l.length cm] 40
                        have hMW := hM5.trans hA5 (V := fun _ => False) (fun _ _ h => h) (fun _ _ h => h)
                        have hQW := hQ5.mod hA5 (fun _ _ h => h)
                        have hRW := hR5.mod hA5 (fun _ _ _ h => h)
                        have hoW := ho5.mod hA5 (fun _ _ h => h)
                        clear hQ5 hR5 hM5 ho5 hA5
                        simp only [List.length_cons] at hRW hRl ⊢
                        have hLn : ¬ (L2.length : Int) + 1 = 0 := by go_light; omega
                        have hLl : (L2.length : Int) + 1 ≤ 32 := by go_light; omega
                        go_upto_region 30 with (fail)
                        generalize w5.alloc (.cells #[.int .i64 k, .int .i64 o, .int .i64 lf, .int .i64 i, .int .i64 p, .int .i64 ps, .int .i64 g, .bool s, .int .i64 st, .int .i64 rs, .int .i64 rr, .int .i64 sq, .slice am l.length cm] 40) = W at *
                        generalize w5.heap.size = mb at *
                        obtain ⟨d0, dsr, rfl⟩ : ∃ d0 dsr, dsb = d0 :: dsr := by
                          cases dsb with
                          | nil => simp at hRl
                          | cons a r => exact ⟨a, r, rfl⟩
                        have hms := hRW.ms
                        simp only [List.map_cons, List.cons.injEq] at hms
                        obtain ⟨dm, v0⟩ := d0
                        simp only at hms
                        obtain ⟨rfl, hmr⟩ := hms
                        obtain ⟨ho0, hr0, _⟩ := hRW.each _ (List.mem_cons_self ..)
                        replace ho0 : Own W v0 l := ho0
                        obtain ⟨a0, c0, rfl⟩ := ho0.shape
                        obtain ⟨ag, cg, eg, hle, hg⟩ := hRW.row.form
                        simp only [List.length_cons, Value.slice.injEq] at eg
                        obtain ⟨rfl, erl, rfl⟩ := eg
                        have erl2 : dsr.length = L2.length := by go_light; omega
                        rcases hg with ⟨rfl, hcb⟩ | ⟨gb, ob, cur, rfl, hBg, hsz, hcells⟩
                        · rw [hcb] at hle
                          simp at hle
                        have hrg : W.rangeAt gb ob (mcl ⟨k, o, lf, i, p, ps, g, s, st, rs, rr, sq, l⟩ (.slice a0 l.length c0)) := hBg.range _ _ fun j c hj => hcells j c (by
                          have := fm_get ((⟨k, o, lf, i, p, ps, g, s, st, rs, rr, sq, l⟩, .slice a0 l.length c0) :: dsr) 0 _ rfl j c hj
                          simpa using this)
                        obtain ⟨q0, q1, q2, q3, q4, q5, q6, q7, q8, q9, q10, q11, q12⟩ := range13 hrg
                        have m0 : W.cell? ⟨mb, 0, none⟩ = some (.int .i64 k) := hMB.cellv (j := 0) rfl
                        have m1 : W.cell? ⟨mb, 1, none⟩ = some (.int .i64 o) := hMB.cellv (j := 1) rfl
                        have m2 : W.cell? ⟨mb, 2, none⟩ = some (.int .i64 lf) := hMB.cellv (j := 2) rfl
                        have m3 : W.cell? ⟨mb, 3, none⟩ = some (.int .i64 i) := hMB.cellv (j := 3) rfl
                        have m4 : W.cell? ⟨mb, 4, none⟩ = some (.int .i64 p) := hMB.cellv (j := 4) rfl
                        have m5 : W.cell? ⟨mb, 5, none⟩ = some (.int .i64 ps) := hMB.cellv (j := 5) rfl
                        have m6 : W.cell? ⟨mb, 6, none⟩ = some (.int .i64 g) := hMB.cellv (j := 6) rfl
                        have m7 : W.cell? ⟨mb, 7, none⟩ = some (.bool s) := hMB.cellv (j := 7) rfl
                        have m8 : W.cell? ⟨mb, 8, none⟩ = some (.int .i64 st) := hMB.cellv (j := 8) rfl
                        have m9 : W.cell? ⟨mb, 9, none⟩ = some (.int .i64 rs) := hMB.cellv (j := 9) rfl
                        have m10 : W.cell? ⟨mb, 10, none⟩ = some (.int .i64 rr) := hMB.cellv (j := 10) rfl
                        have m11 : W.cell? ⟨mb, 11, none⟩ = some (.int .i64 sq) := hMB.cellv (j := 11) rfl
                        have m12 : W.cell? ⟨mb, 12, none⟩ = some (.slice am l.length cm) := hMB.cellv (j := 12) rfl
                        have HS := Same_eq k o lf i p ps g s st rs rr sq am a0 cm c0 l W.drew ((hoW.mod ((Mod.refl (fun _ => False) W).drew) (fun _ _ h => h)).sl hr5) ((ho0.mod ((Mod.refl (fun _ => False) W).drew) (fun _ _ h => h)).sl hr5)
                        have HS2 : Calls Try.prog 12 #[.agg #[.int .i64 k, .int .i64 o, .int .i64 lf, .int .i64 i, .int .i64 p, .int .i64 ps, .int .i64 g, .bool s, .int .i64 st, .int .i64 rs, .int .i64 rr, .int .i64 sq, .slice am l.length cm], .agg #[.int .i64 k, .int .i64 o, .int .i64 lf, .int .i64 i, .int .i64 p, .int .i64 ps, .int .i64 g, .bool s, .int .i64 st, .int .i64 rs, .int .i64 rr, .int .i64 sq, .slice a0 l.length c0]] W.drew fun e w' => ∃ r, e = .returned r ∧ (r = .bool true ∧ Mod (fun _ => False) W.drew w') := HS.mono fun e w' h => ⟨_, h.1, rfl, h.2⟩
                        have HQW : Hid (Qu W q _ L2) := hQW
                        have HRW : Hid (Rn W w.heap.size (.slice (some ⟨gb, ob, none⟩) (L2.length + 1) cb) (⟨k, o, lf, i, p, ps, g, s, st, rs, rr, sq, l⟩ :: L2) ((⟨k, o, lf, i, p, ps, g, s, st, rs, rr, sq, l⟩, .slice a0 l.length c0) :: dsr)) := hRW
                        have HMW : Hid (Mod (fun _ => False) w W) := hMW
                        have HER : Hid (dsr.length = L2.length) := erl2
                        have hDr := (Mod.refl (fun _ => False) W).drew
                        clear HS hQW hRW hMW hMB hoW ho0 hr0 hBg hsz hcells hrg hmr erl erl2
                        go_cut [115] (fun s wx => s = .bool false ∧ Mod (fun _ => False) W wx)
                        case first =>
                          go_region_law (refine step_c2 (fun args w => by simp [go_sem]) (by rfl) _ _ (by rfl) (by rfl) _ _ (by rfl) (by rfl) _ HS2 ?_; rintro r w7 ⟨rfl, hm7⟩)
                          all_goals go_wp2_with (fail)
                          all_goals go_meet
                          all_goals exact ⟨rfl, hDr.trans hm7 (fun _ _ h => h) (fun _ _ h => h)⟩
                        case rest =>
                        obtain ⟨e115, hm8⟩ := hcut
                        subst e115
                        generalize wc = w8 at *
                        have hR8 := HRW.out.mod hm8 (fun _ _ _ h => h)
                        rw [← HER.out] at hR8
                        have hT8 := hR8.tail
                        rw [HER.out] at hT8
                        have HOd : Hid (Od w w8 q (.slice (if cb = 1 then some ⟨gb, ob, none⟩ else (some ⟨gb, ob, none⟩ : Option Addr).map (·.add 13)) L2.length (cb - 1)) L2) := ⟨_, _, HQW.out.mod hm8 (fun _ _ h => h), hT8, hX5, HMW.out.trans hm8 (fun _ _ h => h) (fun _ _ h => h)⟩
                        clear hR8 hT8 HQW HRW HMW hm8 hX5 m0 m1 m2 m3 m4 m5 m6 m7 m8 m9 m10 m11 m12 q0 q1 q2 q3 q4 q5 q6 q7 q8 q9 q10 q11 q12 HS2 hDr
                        go_wp2_with (refine wpList_val rfl (exec_cutM rfl rfl rfl) ?_; simp only [Act.put, List.setIfInBounds_toArray, List.set_cons_succ, List.set_cons_zero])
                        go_roundw
                        case rel => exact ⟨kk + 1, L2, by go_num, hk2, HOd.out⟩
                        case measure => simp [intOf]; go_light; omega
                    · have hk2' : ¬ (kk : Int) < 40 := by go_light; omega
                      have HRm := Room_q hQ
                      have HLn := Len_q hQ
                      have hl32 : (L.length : Int) ≤ 32 := by have := hQ.l32; go_light; omega
                      have hRl := hR.len
                      obtain ⟨ab, cb, eb⟩ := hR.row.shape
                      rw [hRl] at eb
                      subst eb
                      have HOd : Hid (Od w wk q (.slice ab L.length cb) L) := ⟨X, dsb, hQ, hR, hX, hMr⟩
                      have e32 : (L.length : Int) + (32 - (L.length : Int)) = 32 := by go_light; omega
                      clear hQ hR hX hMr hRl
                      go_wp2_with (fail)
                      refine HLn.mono ?_
                      rintro e wk ⟨rfl, rfl⟩
                      go_wp2_with (fail)
                      refine HLn.mono ?_
                      rintro e wk ⟨rfl, rfl⟩
                      go_wp2_with (fail)
                      refine HRm.mono ?_
                      rintro e wk ⟨rfl, rfl⟩
                      go_wp2_with (fail)
                      go_roundw
                      case rel => exact ⟨j + 1, L, by go_num, hjn, HOd.out⟩
                      case measure => simp [intOf]; go_light; omega
                  · have HRm := Room_q hQ
                    have HLn := Len_q hQ
                    have hl32 : (L.length : Int) ≤ 32 := by have := hQ.l32; go_light; omega
                    have hRl := hR.len
                    obtain ⟨ab, cb, eb⟩ := hR.row.shape
                    rw [hRl] at eb
                    subst eb
                    have HOd : Hid (Od w wk q (.slice ab L.length cb) L) := ⟨X, dsb, hQ, hR, hX, hMr⟩
                    have e32 : (L.length : Int) + (32 - (L.length : Int)) = 32 := by go_light; omega
                    clear hQ hR hX hMr hRl
                    go_wp2_with (fail)
                    refine HLn.mono ?_
                    rintro e wk ⟨rfl, rfl⟩
                    go_wp2_with (fail)
                    refine HLn.mono ?_
                    rintro e wk ⟨rfl, rfl⟩
                    go_wp2_with (fail)
                    refine HRm.mono ?_
                    rintro e wk ⟨rfl, rfl⟩
                    go_wp2_with (fail)
                    go_roundw
                    case rel => exact ⟨j + 1, L, by go_num, hjn, HOd.out⟩
                    case measure => simp [intOf]; go_light; omega
      · have hj2' : ¬ (j : Int) < 200 := by go_light; omega
        go_wp2_with (fail)
        go_ret
        obtain ⟨X, dsb, hQ, hR, hX, hMr⟩ := hO
        exact ⟨rfl, hMr⟩
    · have ej : j = es.length := by go_light; omega
      subst ej
      go_wp2_with (fail)
      go_ret
      obtain ⟨X, dsb, hQ, hR, hX, hMr⟩ := hO
      exact ⟨rfl, hMr⟩
namespace queueOrder
open Go.ChangeShapes Go.WideShapes Go.ChangeAt Go.RowKit
set_option maxRecDepth 100000 in
theorem lifted (os : Os) (started : os.Started) (H : Type) (enc : TypeId × Value → H) :
    ReturnsInHanded {} Try.checked os 4 .any (Rows.queueOrderSpec.pre6 enc Try.prog Try.f4 Rows.queueOrderRow.domain false) (Rows.queueOrderSpec.post enc Try.prog Try.f4 false true false false) := by
  refine returnsInHanded_of_change_sized (C := Try.checked) own started (by kernel_rfl) Try.func4
    (ChangeSpec.witness6 (enc := enc) (C := Try.checked) false ⟨#[], #[.slice none 0 0], []⟩ 8 (by kernel_rfl) (by kernel_rfl) (by kernel_rfl) (by kernel_rfl)) ?_
  intro W base args ds gs before hval0 hW hcnd hsz0 _
  have hval : ∀ (j : Nat) t v, Try.f4.params[j]? = some t → args[j]? = some v → Value.okWide Try.prog W .any base t v := hval0
  have hsz : (DataW.weightsEach Try.prog (Try.f4.params.toList ++ Rows.queueOrderSpec.plain.varTypes Try.prog) (ds ++ gs)).all (· ≤ reachBytes) = true := hsz0
  have hW' := hW
  obtain ⟨p, q, hA0, hV, rfl, hfz, hnd⟩ := hW
  have hA : DataW.TrodAll enc Try.prog W 0 (fun _ => true) true Try.f4.params.toList args.toList ds p := hA0
  rw [Try.params4] at hA hval hsz
  obtain ⟨v0, vs0, d0, ds0, p0, q0, hargs, rfl, rfl, h0, r0⟩ := trodAll_cons hA
  obtain ⟨rfl, rfl, rfl⟩ := trodAll_nil r0
  obtain rfl : args = #[v0] := by cases args; simp_all
  obtain ⟨rfl, rfl⟩ := trodVars_none hV
  have k0 := h0
  have lt0 : ∀ x ∈ p0, x.block < W.heap.size := by obtain ⟨m, hm⟩ := k0; exact DataW.trod_lt m _ _ _ hm
  obtain ⟨B0, hB0⟩ := open_deeds h0 (okWide_slice Try.underlying22 (hval 0 22 v0 rfl rfl)) (by
    rw [List.all_eq_true] at hsz
    intro n hn
    have := hsz n (DataW.weights_mem_each (t := 22) (j := 0) rfl rfl n hn)
    simpa using this)
  clear hA0 hval0
  refine (order_walk v0 B0 W hB0).mono fun e W' ⟨he, hm⟩ => ?_
  subst he
  have bel : Below W.heap.size W W' := hm.below _ (Nat.le_refl _) (fun _ h => h.elim)
  exact ⟨_, rfl, _, _, _, [], _, [], hW', trodAll_mk1 (shut_bool Try.underlying4 _), (trodAll_cons_mk (Below.trod laidOut (by kernel_rfl) (of_decide_eq_true (by kernel_rfl)) k0 bel lt0) trodAll_mk0), rfl, bel.frame _, fun h => by cases h⟩

theorem over : Rows.queueOrderRow.holds Try.pinned (OpenSpec.ofChange Rows.queueOrderSpec) :=
  OpenClaim.holds_of_wide 4 Try.f4 rfl rfl rfl rfl rfl rfl rfl ⟨rfl, rfl, rfl, rfl, rfl⟩ rfl rfl rfl rfl rfl (by kernel_rfl) Try.func4 (by kernel_rfl)
    (of_decide_eq_true (by kernel_rfl)) (by unfold Func.isWrapper; first | (rw [if_pos (by decide +kernel)]; kernel_rfl) | (rw [if_neg (by decide +kernel)]; exact ⟨rfl, rfl⟩))
    (fun os started H enc _ => lifted os started H enc)
end queueOrder
theorem queueOrder_holds : Rows.QueueOrderSaid := queueOrder.over
end Go.Proofs.Ytcedlpjjldmpfaa
