/- What OrderPlays answers of data without a body, none of them Safe and sent again. Conditions: these; at most 80 of them. -/
import Derived.Test.YtbmhgglnoofnjaaOh
import Derived.Deep.CutBlock
namespace Go.Proofs.Ytbmhgglnoofnjaa
open Go.RowKit Go.Maps
/-- A slice of what comes. -/
structure Dls (w : World) (v : Value) (es : List (Dt × Int)) : Prop where
  form : ∃ ao cap, v = .slice ao es.length cap ∧ (es ≠ [] → ∃ g off, ao = some ⟨g, off, none⟩ ∧ ∀ i e, es[i]? = some e → w.rangeAt g (off + i * 19) (dcl e.1 (.slice none 0 0) ++ [.int .i64 e.2]))
  each : ∀ e ∈ es, gd e.1 ∧ I64 e.1.n
theorem Dls.keep {w w' : World} {v : Value} {es : List (Dt × Int)} (h : Dls w v es) (hm : Mod (fun _ => False) w w') : Dls w' v es := by
  obtain ⟨ao, cap, e, h1⟩ := h.form
  refine ⟨⟨ao, cap, e, fun hne => ?_⟩, h.each⟩
  obtain ⟨g, off, e2, h2⟩ := h1 hne
  exact ⟨g, off, e2, fun i x hx t c ht => hm.cell (h2 i x hx t c ht) (fun h => h)⟩
set_option maxRecDepth 100000 in
set_option maxHeartbeats 40000000 in
theorem plays_walk (v0 : Value) (es : List (Dt × Int)) (w : World) (hv : Dls w v0 es) (h80 : es.length ≤ 80) : Calls Try.prog 3 #[v0] w fun e w' => e = .returned (.bool true) ∧ Mod (fun _ => False) w w' := by
  have HV : Hid (Dls w v0 es) := hv
  obtain ⟨av, cv, rfl, _⟩ := hv.form
  clear hv
  have H80 : Hid (es.length ≤ 80) := h80
  clear h80
  have HC : Hid (∃ g off, es ≠ [] → av = some ⟨g, off, none⟩ ∧ ∀ wx, Mod (fun _ => False) w wx → ∀ i e, es[i]? = some e → wx.rangeAt g (off + i * 19) (dcl e.1 (.slice none 0 0) ++ [.int .i64 e.2])) := by
    obtain ⟨av', cv', e, hfm⟩ := HV.out.form
    cases e
    by_cases hne : es = []
    · exact ⟨0, 0, fun h => absurd hne h⟩
    · obtain ⟨b, off, rfl, hc⟩ := hfm hne
      exact ⟨b, off, fun _ => ⟨rfl, fun wx hm i e hi t c ht => hm.cell (hc i e hi t c ht) (fun h => h)⟩⟩
  go_enter Try.func3, Try.ntmps3
  go_wp2_with (fail)
  refine (Pr.new w).mono ?_
  rintro e w1 ⟨q, rfl, H1⟩
  go_wp2_with (fail)
  refine H1.mono ?_
  rintro e w2 ⟨p, rfl, H2⟩
  clear H1
  go_wp2_with (fail)
  refine H2.mono ?_
  rintro e w3 ⟨qd, rfl, H3⟩
  clear H2
  go_wp2_with (fail)
  refine H3.mono ?_
  rintro e w4 ⟨pd, rfl, hP⟩
  clear H3
  have HP0 : Hid (Pr w w4 p q pd qd (fun _ => none) [] 0 0 0 0) := hP
  clear hP
  go_wp2_with (fail)
  go_loopw [7] (fun ci wr => ∃ (i : Nat) (J : Int → Option Dt) (L : List Dt) (a h N : Int), ci = .int .i64 (i : Int) ∧ i ≤ es.length ∧ Hid (Pr w wr p q pd qd J L a h N i)) (fun ci _ => es.length - (intOf ci).toNat)
  case atStart => exact ⟨0, _, _, _, _, _, rfl, Nat.zero_le _, HP0⟩
  case round =>
    clear HP0
    obtain ⟨i, J, L, a, h, N, rfl, hi, hP⟩ := hrel
    by_cases hlt : i < es.length
    · have hlt' : (i : Int) < (es.length : Int) := by omega
      have hi80 : (i : Int) < 80 := by have := H80.out; omega
      have hi0 : (0 : Int) ≤ (i : Int) := by omega
      obtain ⟨g, off, hcs0⟩ := HC.out
      obtain ⟨rfl, hcs⟩ := hcs0 (by intro e; rw [e] at hlt; simp at hlt)
      obtain ⟨x, hx⟩ : ∃ x, es[i]? = some x := ⟨es[i], List.getElem?_eq_getElem hlt⟩
      obtain ⟨d, s⟩ := x
      obtain ⟨hgd, hdn⟩ := HV.out.each (d, s) (List.mem_of_getElem? hx)
      have HGD : Hid (gd d ∧ I64 d.n) := ⟨hgd, hdn⟩
      have HR : Hid (∀ wx, Mod (fun _ => False) w wx → wx.rangeAt g (off + i * 19) (dcl d (.slice none 0 0)) ∧ wx.cell? ⟨g, off + i * 19 + 18, none⟩ = some (.int .i64 s) ∧ wx.cell? ⟨g, off + i * 19 + 2, none⟩ = some (.int .i64 d.n)) := fun wx hm => by
        have h1 := hcs wx hm i (d, s) hx
        refine ⟨fun t c ht => h1 t c ?_, ?_, ?_⟩
        · rw [List.getElem?_append_left (by have := dcl_lt ht; rw [dcl_len]; omega)]
          exact ht
        · have := h1 18 (.int .i64 s) rfl
          exact this
        · have := h1 2 (.int .i64 d.n) rfl
          exact this
      have HLT : Hid (i < es.length) := hlt
      have HI80 : Hid (i < 80) := by show _ < _; have := H80.out; omega
      clear hcs hcs0 hx hgd hdn hlt
      have HPU : Calls Try.prog 11 #[.pointer (some ⟨p, 0, none⟩), .agg (dcl d (.slice none 0 0)).toArray] wr _ := hP.out.put d HGD.out.1 (by have := HI80.out; omega)
      go_wp2_with (refine wpList_load_at info18 Try.underlying42 rfl rfl _ rfl g (off + i * 19) rfl (dcl d (.slice none 0 0)) (HR.out wr hP.out.mod).1 rfl ?_; simp only [Act.put, List.setIfInBounds_toArray, List.set_cons_succ, List.set_cons_zero])
      refine HPU.mono ?_
      rintro e w5 ⟨r5, rfl, hm5, HPD⟩
      have HM5 : Hid (Mod (fun _ => False) w w5) := hP.out.mod.trans hm5 (fun _ _ h => h) (fun i hi h => by omega)
      clear HPU hm5
      have HPD2 : Calls Try.prog 12 #[.pointer (some ⟨pd, 0, none⟩), .agg (dcl d (.slice none 0 0)).toArray] w5 _ := HPD
      clear HPD
      go_wp2_with (refine wpList_load_at info18 Try.underlying42 rfl rfl _ rfl g (off + i * 19) rfl (dcl d (.slice none 0 0)) (HR.out w5 HM5.out).1 rfl ?_; simp only [Act.put, List.setIfInBounds_toArray, List.set_cons_succ, List.set_cons_zero])
      refine HPD2.mono ?_
      rintro e w6 ⟨r6, a6, rfl, hm6, hP6⟩
      have HP6 : Hid (Pr w w6 p q pd qd (pJ J d) (pL L d) a6 (pH J h d) N (i + 1)) := hP6
      clear HPD2 hm6 hP6 hP HM5
      have cs := (HR.out w6 HP6.out.mod).2.1
      go_wp2_with (fail)
      refine (HP6.out.next (by have := HI80.out; omega) s).mono ?_
      rintro e w7 ⟨v7, d7, t7, rfl, hm7, HDN⟩
      have HM7 : Hid (Mod (fun _ => False) w w7) := HP6.out.mod.trans hm7 (fun _ _ h => h) (fun i hi h => by omega)
      obtain ⟨JJ, eJ⟩ : ∃ JJ, JJ = pJ J d := ⟨_, rfl⟩
      have cs7 := (HR.out w7 HM7.out).2.1
      clear hm7 cs eJ
      go_wp2_with (fail)
      refine HDN.mono ?_
      rintro e w8 ⟨v8, d8, rfl, hm8, hR7, hR8, hmp, hbd, hln, hP8⟩
      have HR7 : Hid (Rd18 w8 w.heap.size v7 d7) := hR7
      have HR8 : Hid (Rd18 w8 w.heap.size v8 d8) := hR8
      have HMP : Hid (d7.map (·.1) = d8.map (·.1)) := hmp
      have HBD : Hid (∀ x ∈ d7, x.1.m.body = []) := hbd
      have HLN : Hid (d7.length ≤ 1000) := hln
      have HP8 : Hid (Pr w w8 p q pd qd (pJ J d) (pL L d) a6 (pH J h d) (N + t7) (i + 1)) := hP8
      have hle : d8.length = d7.length := by have := congrArg List.length hmp; simpa using this.symm
      obtain ⟨av7, cv7, rfl⟩ := hR7.row.shape
      obtain ⟨av8, cv8, e8⟩ : ∃ av8 cv8, v8 = .slice av8 d7.length cv8 := by
        obtain ⟨x, y, e⟩ := hR8.row.shape
        exact ⟨x, y, by rw [e, hle]⟩
      subst e8
      have HLE : Hid (d8.length = d7.length) := hle
      clear hm8 hR7 hR8 hmp hbd hln hP8 hle HDN cs7 HP6 HM7
      generalize pJ J d = J2 at *
      generalize pL L d = L2 at *
      generalize pH J h d = h2 at *
      have hnl : ((d7.length : Int) != (d7.length : Int)) = false := by simp
      have hnn : ((N + (t7 : Int)) != (N + (t7 : Int))) = false := by simp
      have HD1 := Done_w HP8.out.ord
      have HD2 := dDone_w HP8.out.dor
      go_wp2_with (first | (go_at_call 15; refine HD1.mono ?_; rintro e w9 ⟨rfl, rfl⟩) | (go_at_call 16; refine HD2.mono ?_; rintro e w10 ⟨rfl, rfl⟩))
      obtain ⟨wb, ewb⟩ : ∃ wb, wb = w10 := ⟨_, rfl⟩
      subst ewb
      clear HD1 HD2
      go_loopw [12] (fun ck wr => ∃ (k : Nat), ck = .int .i64 (k : Int) ∧ k ≤ d7.length ∧ Hid (Mod (fun _ => False) wb wr)) (fun ck _ => d7.length - (intOf ck).toNat)
      case atStart => exact ⟨0, rfl, Nat.zero_le _, Mod.refl _ _⟩
      case round =>
        obtain ⟨k, rfl, hk, hMk⟩ := hrel
        obtain ⟨wk, ewk⟩ : ∃ wk, wk = wr := ⟨_, rfl⟩
        subst ewk
        by_cases hkl : k < d7.length
        · have hkl' : (k : Int) < (d7.length : Int) := by omega
          have hk0 : (0 : Int) ≤ (k : Int) := by omega
          have hk1 : (k : Int) ≤ 1000 := by have := HLN.out; omega
          obtain ⟨x7, hx7⟩ : ∃ x, d7[k]? = some x := ⟨d7[k], List.getElem?_eq_getElem hkl⟩
          obtain ⟨x8, hx8⟩ : ∃ x, d8[k]? = some x := ⟨d8[k]'(by have := HLE.out; omega), List.getElem?_eq_getElem _⟩
          have hxx : x7.1 = x8.1 := by
            have := congrArg (fun l => l[k]?) HMP.out
            simp only [List.getElem?_map, hx7, hx8, Option.map_some, Option.some.injEq] at this
            exact this
          obtain ⟨dd, u7⟩ := x7
          obtain ⟨dd', u8⟩ := x8
          obtain rfl : dd = dd' := hxx
          have hb0 := HBD.out _ (List.mem_of_getElem? hx7)
          dsimp only at hb0
          have ho7 := (HR7.out.each _ (List.mem_of_getElem? hx7)).1
          have ho8 := (HR8.out.each _ (List.mem_of_getElem? hx8)).1
          dsimp only at ho7 ho8
          rw [hb0] at ho7 ho8
          obtain ⟨a7, c7, rfl⟩ : ∃ a7 c7, u7 = .slice a7 0 c7 := ho7.shape
          obtain ⟨a8, c8, rfl⟩ : ∃ a8 c8, u8 = .slice a8 0 c8 := ho8.shape
          obtain ⟨ga, oa, ca, e7, hr7⟩ := HR7.out.row.range (by omega)
          obtain ⟨gb, ob, cb, e8, hr8⟩ := HR8.out.row.range (by have := HLE.out; omega)
          rw [HLE.out] at e8
          have RA : Hid (∀ wx, Mod (fun _ => False) wb wx → wx.rangeAt ga (oa + k * 18) (dcl dd (.slice a7 0 c7))) := fun wx hm t c ht => by
            have := hr7 (k * 18 + t) c (fd_get d7 k _ hx7 t c ht)
            rw [← Nat.add_assoc] at this
            exact hm.cell this (fun h => h)
          have RB : Hid (∀ wx, Mod (fun _ => False) wb wx → wx.rangeAt gb (ob + k * 18) (dcl dd (.slice a8 0 c8))) := fun wx hm t c ht => by
            have := hr8 (k * 18 + t) c (fd_get d8 k _ hx8 t c ht)
            rw [← Nat.add_assoc] at this
            exact hm.cell this (fun h => h)
          have HSM : Hid (∀ W, Mod (fun _ => False) wb W → Calls Try.prog 17 #[.agg #[.int .i64 dd.q, .int .i64 dd.r, .int .i64 dd.n, .int .i64 dd.s, .int .i64 dd.t, .int .i64 dd.m.kind, .int .i64 dd.m.origin, .int .i64 dd.m.life, .int .i64 dd.m.id, .int .i64 dd.m.part, .int .i64 dd.m.parts, .int .i64 dd.m.groups, .bool dd.m.safe, .int .i64 dd.m.st, .int .i64 dd.m.rs, .int .i64 dd.m.rr, .int .i64 dd.m.sq, .slice a7 0 c7], .agg #[.int .i64 dd.q, .int .i64 dd.r, .int .i64 dd.n, .int .i64 dd.s, .int .i64 dd.t, .int .i64 dd.m.kind, .int .i64 dd.m.origin, .int .i64 dd.m.life, .int .i64 dd.m.id, .int .i64 dd.m.part, .int .i64 dd.m.parts, .int .i64 dd.m.groups, .bool dd.m.safe, .int .i64 dd.m.st, .int .i64 dd.m.rs, .int .i64 dd.m.rr, .int .i64 dd.m.sq, .slice a8 0 c8]] W fun e w' => e = .returned (.bool true) ∧ Mod (fun _ => False) W w') := fun W hW => by
            have := same_dt dd a7 a8 c7 c8 W (by rw [hb0]; exact ho7.mod hW (fun _ _ h => h)) (by rw [hb0]; exact ho8.mod hW (fun _ _ h => h)) (by rw [hb0]; simp)
            rw [hb0] at this
            exact this
          have HKL : Hid (k < d7.length) := hkl
          clear hr7 hr8 hx7 hx8 ho7 ho8 hb0 hkl
          cases e7
          cases e8
          go_upto_region 17 with (fail)
          refine region17 ga oa cv7 gb ob cv8 d7.length k #[.int .i64 dd.q, .int .i64 dd.r, .int .i64 dd.n, .int .i64 dd.s, .int .i64 dd.t, .int .i64 dd.m.kind, .int .i64 dd.m.origin, .int .i64 dd.m.life, .int .i64 dd.m.id, .int .i64 dd.m.part, .int .i64 dd.m.parts, .int .i64 dd.m.groups, .bool dd.m.safe, .int .i64 dd.m.st, .int .i64 dd.m.rs, .int .i64 dd.m.rr, .int .i64 dd.m.sq, .slice a7 0 c7] #[.int .i64 dd.q, .int .i64 dd.r, .int .i64 dd.n, .int .i64 dd.s, .int .i64 dd.t, .int .i64 dd.m.kind, .int .i64 dd.m.origin, .int .i64 dd.m.life, .int .i64 dd.m.id, .int .i64 dd.m.part, .int .i64 dd.m.parts, .int .i64 dd.m.groups, .bool dd.m.safe, .int .i64 dd.m.st, .int .i64 dd.m.rs, .int .i64 dd.m.rr, .int .i64 dd.m.sq, .slice a8 0 c8] ⟨⟨_, rfl, rfl, rfl, rfl, by decide +kernel⟩⟩ ⟨⟨_, rfl, rfl, rfl, rfl, by decide +kernel⟩⟩ ⟨⟨_, rfl, rfl, rfl, rfl, by decide +kernel⟩⟩ ⟨⟨_, rfl, rfl, rfl, rfl, by decide +kernel⟩⟩ ⟨⟨_, rfl, rfl, rfl, rfl, by decide +kernel⟩⟩ ⟨⟨_, rfl, rfl, rfl, rfl, by decide +kernel⟩⟩ ⟨⟨_, rfl, rfl, rfl, rfl, by decide +kernel⟩⟩ ⟨⟨_, rfl, rfl, rfl, rfl, by decide +kernel⟩⟩ ⟨⟨_, rfl, rfl, rfl, rfl, by decide +kernel⟩⟩ ⟨⟨_, rfl, rfl, rfl, rfl, by decide +kernel⟩⟩ rfl (by decide +kernel) rfl (by decide +kernel) rfl rfl rfl rfl HKL.out rfl rfl (RA.out _ hMk.out) (RB.out _ hMk.out) (fun W hW => HSM.out W ((hMk.out.and ((Mod.refl (fun _ => False) wk).drew)).and hW)) ?_
          intro y97 y98 y99 y100 y101 y102 y103 y104 y105 wx hmx
          have HMX : Hid (Mod (fun _ => False) wb wx) := hMk.out.and hmx
          have cb17 : wx.cell? ⟨ga, oa + k * 18 + 17, none⟩ = some (.slice a7 0 c7) := RA.out wx HMX.out 17 _ rfl
          clear hmx HSM RA RB
          simp only [puts, Act.put, List.setIfInBounds_toArray, List.set_cons_succ, List.set_cons_zero]
          go_wp2_with (fail)
          go_loopw [13] (fun cj wj => cj = .int .i64 0 ∧ wj = wx) (fun _ _ => 0)
          case atStart => exact ⟨rfl, rfl⟩
          case round =>
            obtain ⟨rfl, rfl⟩ := hrel
            go_wp2_with (fail)
            go_roundw
            case rel => exact ⟨k + 1, by go_num, HKL.out, HMX⟩
            case measure =>
              have := HKL.out
              simp [intOf]
              omega
        · have hkl' : ¬ (k : Int) < (d7.length : Int) := by omega
          have HPk : Hid (Pr w wk p q pd qd J2 L2 a6 h2 (N + t7) (i + 1)) := HP8.out.keep hMk.out
          have cn := (HR.out wk HPk.out.mod).2.2
          clear HP8 hMk HR7 HR8 HMP HBD HLN HLE hk hkl
          go_wp2_with (fail)
          refine (HPk.out.get (by have := HI80.out; omega) d.n HGD.out.2).mono ?_
          rintro e w11 ⟨dz, ao, cap, b, rfl, hzb, ho11, hm11, hP11, HG2⟩
          have hZ : Hid (Bk _ _ _ _) := Bk.new w11 #[.int .i64 0, .int .i64 0, .int .i64 0, .int .i64 0, .int .i64 0, .int .i64 0, .int .i64 0, .int .i64 0, .int .i64 0, .int .i64 0, .int .i64 0, .int .i64 0, .bool false, .int .i64 0, .int .i64 0, .int .i64 0, .int .i64 0, .slice none 0 0] 42
          have hA := (Mod.refl (fun _ => False) w11).alloc (.cells #[.int .i64 0, .int .i64 0, .int .i64 0, .int .i64 0, .int .i64 0, .int .i64 0, .int .i64 0, .int .i64 0, .int .i64 0, .int .i64 0, .int .i64 0, .int .i64 0, .bool false, .int .i64 0, .int .i64 0, .int .i64 0, .int .i64 0, .slice none 0 0] 42)
          clear HPk cn hm11
          unfold dv
          go_upto_region 24 with (refine wpList_store_row info18 rfl rfl _ _ rfl w11.heap.size #[.int .i64 dz.q, .int .i64 dz.r, .int .i64 dz.n, .int .i64 dz.s, .int .i64 dz.t, .int .i64 dz.m.kind, .int .i64 dz.m.origin, .int .i64 dz.m.life, .int .i64 dz.m.id, .int .i64 dz.m.part, .int .i64 dz.m.parts, .int .i64 dz.m.groups, .bool dz.m.safe, .int .i64 dz.m.st, .int .i64 dz.m.rs, .int .i64 dz.m.rr, .int .i64 dz.m.sq, .slice ao 0 cap] rfl rfl hZ.out rfl rfl rfl ?_; intro wF hBF hMF)
          have hFF := hA.trans hMF (V := fun _ => False) (fun _ _ h => h) (fun i hi h => by omega)
          have HPF : Hid (Pr w wF p q pd qd J2 L2 a6 h2 (N + t7) (i + 1)) := hP11.keep hFF
          have HBF : Hid (Bk wF w11.heap.size 42 #[.int .i64 dz.q, .int .i64 dz.r, .int .i64 dz.n, .int .i64 dz.s, .int .i64 dz.t, .int .i64 dz.m.kind, .int .i64 dz.m.origin, .int .i64 dz.m.life, .int .i64 dz.m.id, .int .i64 dz.m.part, .int .i64 dz.m.parts, .int .i64 dz.m.groups, .bool dz.m.safe, .int .i64 dz.m.st, .int .i64 dz.m.rs, .int .i64 dz.m.rr, .int .i64 dz.m.sq, .slice ao 0 cap]) := hBF
          have HOF : Hid (Own wF (.slice ao 0 cap) []) := ho11.mod hFF (fun _ _ h => h)
          have cn := (HR.out wF HPF.out.mod).2.2
          have HDG := HG2 wF HPF.out
          have HLT1 : Hid (w11.heap.size < wF.heap.size) := hBF.lt
          obtain ⟨b1, eb1⟩ : ∃ b1, b1 = w11.heap.size := ⟨_, rfl⟩
          rw [← eb1] at HBF HLT1 ⊢
          clear hZ hA hMF hBF hFF hP11 ho11 HG2 eb1
          go_wp2_with (fail)
          refine HDG.mono ?_
          rintro e w12 ⟨ao', cap', b', rfl, ho12, hm12⟩
          have hZ : Hid (Bk _ _ _ _) := Bk.new w12 #[.int .i64 0, .int .i64 0, .int .i64 0, .int .i64 0, .int .i64 0, .int .i64 0, .int .i64 0, .int .i64 0, .int .i64 0, .int .i64 0, .int .i64 0, .int .i64 0, .bool false, .int .i64 0, .int .i64 0, .int .i64 0, .int .i64 0, .slice none 0 0] 42
          have hA := (Mod.refl (fun _ => False) w12).alloc (.cells #[.int .i64 0, .int .i64 0, .int .i64 0, .int .i64 0, .int .i64 0, .int .i64 0, .int .i64 0, .int .i64 0, .int .i64 0, .int .i64 0, .int .i64 0, .int .i64 0, .bool false, .int .i64 0, .int .i64 0, .int .i64 0, .int .i64 0, .slice none 0 0] 42)
          have s12 := hm12.size
          clear HDG cn
          unfold dv
          go_upto_region 25 with (refine wpList_store_row info18 rfl rfl _ _ rfl w12.heap.size #[.int .i64 dz.q, .int .i64 dz.r, .int .i64 dz.n, .int .i64 dz.s, .int .i64 dz.t, .int .i64 dz.m.kind, .int .i64 dz.m.origin, .int .i64 dz.m.life, .int .i64 dz.m.id, .int .i64 dz.m.part, .int .i64 dz.m.parts, .int .i64 dz.m.groups, .bool dz.m.safe, .int .i64 dz.m.st, .int .i64 dz.m.rs, .int .i64 dz.m.rr, .int .i64 dz.m.sq, .slice ao' 0 cap'] rfl rfl hZ.out rfl rfl rfl ?_; intro wG hBG hMG)
          have hGG := hA.trans hMG (V := fun _ => False) (fun _ _ h => h) (fun i hi h => by omega)
          have HPG : Hid (Pr w wG p q pd qd J2 L2 a6 h2 (N + t7) (i + 1)) := (HPF.out.keep hm12).keep hGG
          have HB1 : Hid (Bk wG b1 42 #[.int .i64 dz.q, .int .i64 dz.r, .int .i64 dz.n, .int .i64 dz.s, .int .i64 dz.t, .int .i64 dz.m.kind, .int .i64 dz.m.origin, .int .i64 dz.m.life, .int .i64 dz.m.id, .int .i64 dz.m.part, .int .i64 dz.m.parts, .int .i64 dz.m.groups, .bool dz.m.safe, .int .i64 dz.m.st, .int .i64 dz.m.rs, .int .i64 dz.m.rr, .int .i64 dz.m.sq, .slice ao 0 cap]) := (HBF.out.mod hm12 (fun h => h)).mod hGG (fun h => h)
          have HB2 : Hid (Bk wG w12.heap.size 42 #[.int .i64 dz.q, .int .i64 dz.r, .int .i64 dz.n, .int .i64 dz.s, .int .i64 dz.t, .int .i64 dz.m.kind, .int .i64 dz.m.origin, .int .i64 dz.m.life, .int .i64 dz.m.id, .int .i64 dz.m.part, .int .i64 dz.m.parts, .int .i64 dz.m.groups, .bool dz.m.safe, .int .i64 dz.m.st, .int .i64 dz.m.rs, .int .i64 dz.m.rr, .int .i64 dz.m.sq, .slice ao' 0 cap']) := hBG
          have HSM : Calls Try.prog 17 #[.agg #[.int .i64 dz.q, .int .i64 dz.r, .int .i64 dz.n, .int .i64 dz.s, .int .i64 dz.t, .int .i64 dz.m.kind, .int .i64 dz.m.origin, .int .i64 dz.m.life, .int .i64 dz.m.id, .int .i64 dz.m.part, .int .i64 dz.m.parts, .int .i64 dz.m.groups, .bool dz.m.safe, .int .i64 dz.m.st, .int .i64 dz.m.rs, .int .i64 dz.m.rr, .int .i64 dz.m.sq, .slice ao 0 cap], .agg #[.int .i64 dz.q, .int .i64 dz.r, .int .i64 dz.n, .int .i64 dz.s, .int .i64 dz.t, .int .i64 dz.m.kind, .int .i64 dz.m.origin, .int .i64 dz.m.life, .int .i64 dz.m.id, .int .i64 dz.m.part, .int .i64 dz.m.parts, .int .i64 dz.m.groups, .bool dz.m.safe, .int .i64 dz.m.st, .int .i64 dz.m.rs, .int .i64 dz.m.rr, .int .i64 dz.m.sq, .slice ao' 0 cap']] wG fun e w' => e = .returned (.bool true) ∧ Mod (fun _ => False) wG w' := by
            have := same_dt dz ao ao' cap cap' wG (by rw [hzb]; exact (HOF.out.mod hm12 (fun _ _ h => h)).mod hGG (fun _ _ h => h)) (by rw [hzb]; exact ho12.mod hGG (fun _ _ h => h)) (by rw [hzb]; simp)
            rw [hzb] at this
            exact this
          clear hZ hA hMG hBG hGG ho12 hm12 HPF HBF HOF s12
          go_wp2_with (first | (refine wpList_load_row info18 Try.underlying42 rfl rfl _ rfl b1 rfl HB1.out rfl ?_; simp only [Act.put, List.setIfInBounds_toArray, List.set_cons_succ, List.set_cons_zero]) | (refine wpList_load_row info18 Try.underlying42 rfl rfl _ rfl w12.heap.size rfl HB2.out rfl ?_; simp only [Act.put, List.setIfInBounds_toArray, List.set_cons_succ, List.set_cons_zero]))
          refine HSM.mono ?_
          rintro e w13 ⟨rfl, hm13⟩
          have HPZ : Hid (Pr w w13 p q pd qd J2 L2 a6 h2 (N + t7) (i + 1)) := HPG.out.keep hm13
          clear HSM hm13 HPG HB1 HB2
          go_wp2_with (fail)
          go_roundw
          case rel => exact ⟨i + 1, _, _, _, _, _, by go_num, HLT.out, HPZ⟩
          case measure =>
            have := HLT.out
            simp [intOf]
            omega
    · have hlt' : ¬ (i : Int) < (es.length : Int) := by omega
      have HM : Hid (Mod (fun _ => False) w wr) := hP.out.mod
      clear hP
      go_wp2_with (fail)
      refine (awake_any _).mono ?_
      rintro e w5 ⟨rfl, hm5⟩
      go_wp2
      go_ret
      exact ⟨rfl, HM.out.and hm5⟩
end Go.Proofs.Ytbmhgglnoofnjaa
