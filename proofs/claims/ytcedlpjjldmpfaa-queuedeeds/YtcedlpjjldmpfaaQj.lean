/- Contract of the law's copies: messages in memory of their own. No conditions beyond sizes that a slice has. -/
import Derived.Test.YtcedlpjjldmpfaaQh
import Derived.Test.YtcedlpjjldmpfaaRw
namespace Go.Proofs.Ytcedlpjjldmpfaa
open Go.RowKit
set_option maxRecDepth 100000 in
set_option maxHeartbeats 2000000 in
theorem copies_any (va : Value) (es : List (Ms × Value)) (w : World) (hD : Mgs w va es) : Calls Try.prog 9 #[va] w fun e w' => ∃ v ds, e = .returned v ∧ Rn w' w.heap.size v (es.map (·.1)) ds ∧ Mod (fun _ => False) w w' := by
  have HD : Hid (Mgs w va es) := hD
  obtain ⟨av, cv, rfl, hlen, hfm⟩ := hD.form
  have hlen' : (es.length : Int) ≤ 140737488355327 := by omega
  go_enter Try.func9, Try.ntmps9
  go_wp2_with (fail)
  go_loopw [3, 4] (fun v ci wr => ∃ (j : Nat) (ds : List (Ms × Value)), ci = .int .i64 (j : Int) ∧ j ≤ es.length ∧ Rn wr w.heap.size v ((es.take j).map (·.1)) ds ∧ Mod (fun _ => False) w wr) (fun _ ci _ => es.length - (intOf ci).toNat)
  case atStart => exact ⟨0, [], rfl, Nat.zero_le _, Rn.nil _ _, Mod.refl _ _⟩
  case round =>
    obtain ⟨j, ds, rfl, hj, hR, hMr⟩ := hrel
    by_cases hjn : j < es.length
    · have hjn' : (j : Int) < (es.length : Int) := by go_light; omega
      have hjb' : (j : Int) < 140737488355327 := by go_light; omega
      obtain ⟨d, hdj⟩ : ∃ d, es[j]? = some d := ⟨es[j], List.getElem?_eq_getElem hjn⟩
      obtain ⟨b, off, rfl, hc⟩ := hfm (by intro e; rw [e] at hjn; exact absurd hjn (Nat.not_lt_zero _))
      have hrg := range_mod (hc j d hdj) hMr (fun h => h)
      obtain ⟨hsl, hbl⟩ := HD.out.each d (List.mem_of_getElem? hdj)
      replace hsl := hsl.mod hMr (fun _ _ h => h)
      have HDJ : Hid (es[j]? = some d) := hdj
      clear hdj hc hfm
      obtain ⟨⟨k, o, lf, i, p, ps, g, s, st, rs, rr, sq, l⟩, dv⟩ := d
      replace hsl : Sl wr dv l := hsl
      replace hbl : l.length ≤ 140737488355328 := hbl
      obtain ⟨ao, cap, rfl, _⟩ := hsl.form
      obtain ⟨c0, c1, c2, c3, c4, c5, c6, c7, c8, c9, c10, c11, c12⟩ := range13 hrg
      have HC := dCopy k o lf i p ps g s st rs rr sq ao cap l wr hsl hbl
      have HRG : Hid (∀ c ∈ l, 0 ≤ c ∧ c ≤ 255) := hsl.rng
      have hdl : ds.length = j := by rw [hR.len, List.length_map, List.length_take]; go_light; omega
      obtain ⟨av, cv', ev⟩ := hR.row.shape
      rw [hdl] at ev
      subst ev
      have hl120 : (j + 1) * 120 ≤ 140737488355328 := by go_light; omega
      clear hrg hsl hbl
      go_wp2_with (fail)
      refine HC.mono ?_
      rintro e w1 ⟨a1, k1, rfl, ho1, hm1, hb1⟩
      clear HC c0 c1 c2 c3 c4 c5 c6 c7 c8 c9 c10 c11 c12
      have hsc := Sc.lit w1 ⟨k, o, lf, i, p, ps, g, s, st, rs, rr, sq, l⟩ (.slice a1 l.length k1) rfl
      have hA := (Mod.refl (fun _ => False) w1).alloc (.cells (mcl ⟨k, o, lf, i, p, ps, g, s, st, rs, rr, sq, l⟩ (.slice a1 l.length k1)).toArray 40)
      simp only [mcl] at hsc hA
      have HR : Hid (Rn wr w.heap.size (.slice av j cv') ((es.take j).map (·.1)) ds) := hR
      have HMA : Hid (Mod (fun _ => False) wr _) := hm1.trans hA (V := fun _ => False) (fun _ _ h => h) (fun _ _ h => h)
      have hrw := hR.row.mod HMA.out (fun _ _ h => h)
      have HO : Hid (Own _ _ _) := ho1.mod hA (fun _ _ h => h)
      have HB : Hid ((∀ b, (Value.slice a1 l.length k1).ownBlock = some b → w.heap.size ≤ b) ∧ w.heap.size ≤ w1.heap.size ∧ ds.length = j) := ⟨fun b hb => Nat.le_trans hMr.size (hb1 b hb), Nat.le_trans hMr.size hm1.size, hdl⟩
      have HMr : Hid (Mod (fun _ => False) w wr) := hMr
      clear hR hA hm1 ho1 hb1 hdl hMr
      go_wp2_with (refine wpList_appM rfl _ _ rfl (.slice av j cv') (.slice (some ⟨w1.heap.size, 0, none⟩) 1 1) ds [(⟨k, o, lf, i, p, ps, g, s, st, rs, rr, sq, l⟩, .slice a1 l.length k1)] rfl rfl hrw hsc (by rw [HB.out.2.2]; exact hl120) (j + 1) (by rw [HB.out.2.2]; rfl) ?_; intro ax cx w3 hr3 hm3 hf3; simp only [Act.put, List.setIfInBounds_toArray, List.set_cons_succ, List.set_cons_zero])
      have HN : Hid (Rn w3 w.heap.size (.slice ax (j + 1) cx) ((es.take (j + 1)).map (·.1)) (ds ++ [(⟨k, o, lf, i, p, ps, g, s, st, rs, rr, sq, l⟩, .slice a1 l.length k1)])) := by
        have := HR.out.push HMA.out hr3 HO.out HRG.out HB.out.1 hm3 hf3 (by simp; have := HB.out.2.1; go_light; omega)
        show Rn _ _ _ _ _
        rw [List.take_add_one, HDJ.out, Option.toList_some, List.map_append]
        exact this
      have HM3 : Hid (Mod (fun _ => False) w w3) := (HMr.out.trans HMA.out (V := fun _ => False) (fun _ _ h => h) (fun _ _ h => h)).trans hm3 (fun _ _ h => h) (fun b' hb' e => by have := HR.out.new b' e; go_light; omega)
      clear hr3 hm3 hf3 hrw hsc HMA HO HB HMr HR HRG HDJ
      go_wp2_with (fail)
      go_roundw
      case rel => exact ⟨j + 1, _, by go_num, hjn, HN.out, HM3.out⟩
      case measure => simp [intOf]; go_light; omega
    · have ej : j = es.length := by go_light; omega
      subst ej
      rw [List.take_length] at hR
      go_wp2_with (fail)
      go_ret
      exact ⟨_, _, rfl, hR, hMr⟩
end Go.Proofs.Ytcedlpjjldmpfaa
