/- ParcelOlds: what data are sent again as, and what they were, is the document's. No conditions beyond sizes that a slice of bytes has. -/
import Derived.Test.YtajhpnfpjickbaaRom
import Derived.Test.YtajhpnfpjickbaaWj
import Derived.Test.YtajhpnfpjickbaaRsd
import Derived.Test.YtajhpnfpjickbaaCy
import Derived.Test.YtajhpnfpjickbaaEd
import Derived.Deep.Cut
namespace Go.Proofs.Ytajhpnfpjickbaa
open Go.RowKit
set_option maxRecDepth 100000 in
set_option maxHeartbeats 8000000 in
theorem olds_walk (dq dr ds dn dt : Int) (k o lf i p ps g : Int) (s : Bool) (st rs rr sq : Int) (ao : Option Addr) (cap : Nat) (l : List Int) (nk no nl ni np nps ng : Int) (nS : Bool) (nst nrs nrr nsq : Int) (nao : Option Addr) (ncap : Nat) (nl2 : List Int) (w : World)
    (hs : Sl w (.slice ao l.length cap) l) (hn : Sl w (.slice nao nl2.length ncap) nl2) (hb : l.length ≤ 140737488351232) (hnb : nl2.length ≤ 140737488351232) :
    Calls Try.prog 6 #[.agg #[.int .i64 dq, .int .i64 dr, .int .i64 ds, .int .i64 dn, .int .i64 dt, .int .i64 k, .int .i64 o, .int .i64 lf, .int .i64 i, .int .i64 p, .int .i64 ps, .int .i64 g, .bool s, .int .i64 st, .int .i64 rs, .int .i64 rr, .int .i64 sq, .slice ao l.length cap], .agg #[.int .i64 nk, .int .i64 no, .int .i64 nl, .int .i64 ni, .int .i64 np, .int .i64 nps, .int .i64 ng, .bool nS, .int .i64 nst, .int .i64 nrs, .int .i64 nrr, .int .i64 nsq, .slice nao nl2.length ncap]] w fun e w' => e = .returned (.bool true) ∧ Mod (fun _ => False) w w' := by
  have hrl := hs.rng
  have hrn := hn.rng
  have hA1 := (Mod.refl (fun _ => False) w).alloc (.cells #[.int .i64 dq, .int .i64 dr, .int .i64 ds, .int .i64 dn, .int .i64 dt, .int .i64 k, .int .i64 o, .int .i64 lf, .int .i64 i, .int .i64 p, .int .i64 ps, .int .i64 g, .bool s, .int .i64 st, .int .i64 rs, .int .i64 rr, .int .i64 sq, .slice ao l.length cap] 49)
  have hA2 := (Mod.refl (fun _ => False) (w.alloc (.cells #[.int .i64 dq, .int .i64 dr, .int .i64 ds, .int .i64 dn, .int .i64 dt, .int .i64 k, .int .i64 o, .int .i64 lf, .int .i64 i, .int .i64 p, .int .i64 ps, .int .i64 g, .bool s, .int .i64 st, .int .i64 rs, .int .i64 rr, .int .i64 sq, .slice ao l.length cap] 49))).alloc (.cells #[.int .i64 nk, .int .i64 no, .int .i64 nl, .int .i64 ni, .int .i64 np, .int .i64 nps, .int .i64 ng, .bool nS, .int .i64 nst, .int .i64 nrs, .int .i64 nrr, .int .i64 nsq, .slice nao nl2.length ncap] 28)
  have hA := hA1.trans hA2 (V := fun _ => False) (fun _ _ h => h) (fun _ _ h => h)
  have e1 : (w.alloc (.cells #[.int .i64 dq, .int .i64 dr, .int .i64 ds, .int .i64 dn, .int .i64 dt, .int .i64 k, .int .i64 o, .int .i64 lf, .int .i64 i, .int .i64 p, .int .i64 ps, .int .i64 g, .bool s, .int .i64 st, .int .i64 rs, .int .i64 rr, .int .i64 sq, .slice ao l.length cap] 49)).heap.size = w.heap.size + 1 := by simp
  have e2 : ((w.alloc (.cells #[.int .i64 dq, .int .i64 dr, .int .i64 ds, .int .i64 dn, .int .i64 dt, .int .i64 k, .int .i64 o, .int .i64 lf, .int .i64 i, .int .i64 p, .int .i64 ps, .int .i64 g, .bool s, .int .i64 st, .int .i64 rs, .int .i64 rr, .int .i64 sq, .slice ao l.length cap] 49)).alloc (.cells #[.int .i64 nk, .int .i64 no, .int .i64 nl, .int .i64 ni, .int .i64 np, .int .i64 nps, .int .i64 ng, .bool nS, .int .i64 nst, .int .i64 nrs, .int .i64 nrr, .int .i64 nsq, .slice nao nl2.length ncap] 28)).heap.size = w.heap.size + 2 := by simp
  have hD0 : Bk ((w.alloc (.cells #[.int .i64 dq, .int .i64 dr, .int .i64 ds, .int .i64 dn, .int .i64 dt, .int .i64 k, .int .i64 o, .int .i64 lf, .int .i64 i, .int .i64 p, .int .i64 ps, .int .i64 g, .bool s, .int .i64 st, .int .i64 rs, .int .i64 rr, .int .i64 sq, .slice ao l.length cap] 49)).alloc (.cells #[.int .i64 nk, .int .i64 no, .int .i64 nl, .int .i64 ni, .int .i64 np, .int .i64 nps, .int .i64 ng, .bool nS, .int .i64 nst, .int .i64 nrs, .int .i64 nrr, .int .i64 nsq, .slice nao nl2.length ncap] 28)) w.heap.size 49 #[.int .i64 dq, .int .i64 dr, .int .i64 ds, .int .i64 dn, .int .i64 dt, .int .i64 k, .int .i64 o, .int .i64 lf, .int .i64 i, .int .i64 p, .int .i64 ps, .int .i64 g, .bool s, .int .i64 st, .int .i64 rs, .int .i64 rr, .int .i64 sq, .slice ao l.length cap] := (Bk.new w #[.int .i64 dq, .int .i64 dr, .int .i64 ds, .int .i64 dn, .int .i64 dt, .int .i64 k, .int .i64 o, .int .i64 lf, .int .i64 i, .int .i64 p, .int .i64 ps, .int .i64 g, .bool s, .int .i64 st, .int .i64 rs, .int .i64 rr, .int .i64 sq, .slice ao l.length cap] 49).mod hA2 (fun h => h)
  have hN0 : Bk ((w.alloc (.cells #[.int .i64 dq, .int .i64 dr, .int .i64 ds, .int .i64 dn, .int .i64 dt, .int .i64 k, .int .i64 o, .int .i64 lf, .int .i64 i, .int .i64 p, .int .i64 ps, .int .i64 g, .bool s, .int .i64 st, .int .i64 rs, .int .i64 rr, .int .i64 sq, .slice ao l.length cap] 49)).alloc (.cells #[.int .i64 nk, .int .i64 no, .int .i64 nl, .int .i64 ni, .int .i64 np, .int .i64 nps, .int .i64 ng, .bool nS, .int .i64 nst, .int .i64 nrs, .int .i64 nrr, .int .i64 nsq, .slice nao nl2.length ncap] 28)) (w.heap.size + 1) 28 #[.int .i64 nk, .int .i64 no, .int .i64 nl, .int .i64 ni, .int .i64 np, .int .i64 nps, .int .i64 ng, .bool nS, .int .i64 nst, .int .i64 nrs, .int .i64 nrr, .int .i64 nsq, .slice nao nl2.length ncap] := by have := Bk.new (w.alloc (.cells #[.int .i64 dq, .int .i64 dr, .int .i64 ds, .int .i64 dn, .int .i64 dt, .int .i64 k, .int .i64 o, .int .i64 lf, .int .i64 i, .int .i64 p, .int .i64 ps, .int .i64 g, .bool s, .int .i64 st, .int .i64 rs, .int .i64 rr, .int .i64 sq, .slice ao l.length cap] 49)) #[.int .i64 nk, .int .i64 no, .int .i64 nl, .int .i64 ni, .int .i64 np, .int .i64 nps, .int .i64 ng, .bool nS, .int .i64 nst, .int .i64 nrs, .int .i64 nrr, .int .i64 nsq, .slice nao nl2.length ncap] 28; rwa [e1] at this
  have hA3 := (Mod.refl (fun _ => False) ((w.alloc (.cells #[.int .i64 dq, .int .i64 dr, .int .i64 ds, .int .i64 dn, .int .i64 dt, .int .i64 k, .int .i64 o, .int .i64 lf, .int .i64 i, .int .i64 p, .int .i64 ps, .int .i64 g, .bool s, .int .i64 st, .int .i64 rs, .int .i64 rr, .int .i64 sq, .slice ao l.length cap] 49)).alloc (.cells #[.int .i64 nk, .int .i64 no, .int .i64 nl, .int .i64 ni, .int .i64 np, .int .i64 nps, .int .i64 ng, .bool nS, .int .i64 nst, .int .i64 nrs, .int .i64 nrr, .int .i64 nsq, .slice nao nl2.length ncap] 28))).alloc (.cells #[.int .i64 0, .int .i64 0, .int .i64 0, .int .i64 0, .int .i64 0, .int .i64 0, .int .i64 0, .int .i64 0, .int .i64 0, .int .i64 0, .int .i64 0, .int .i64 0, .bool false, .int .i64 0, .int .i64 0, .int .i64 0, .int .i64 0, .slice none 0 0] 49)
  have hI0 : Bk (((w.alloc (.cells #[.int .i64 dq, .int .i64 dr, .int .i64 ds, .int .i64 dn, .int .i64 dt, .int .i64 k, .int .i64 o, .int .i64 lf, .int .i64 i, .int .i64 p, .int .i64 ps, .int .i64 g, .bool s, .int .i64 st, .int .i64 rs, .int .i64 rr, .int .i64 sq, .slice ao l.length cap] 49)).alloc (.cells #[.int .i64 nk, .int .i64 no, .int .i64 nl, .int .i64 ni, .int .i64 np, .int .i64 nps, .int .i64 ng, .bool nS, .int .i64 nst, .int .i64 nrs, .int .i64 nrr, .int .i64 nsq, .slice nao nl2.length ncap] 28)).alloc (.cells #[.int .i64 0, .int .i64 0, .int .i64 0, .int .i64 0, .int .i64 0, .int .i64 0, .int .i64 0, .int .i64 0, .int .i64 0, .int .i64 0, .int .i64 0, .int .i64 0, .bool false, .int .i64 0, .int .i64 0, .int .i64 0, .int .i64 0, .slice none 0 0] 49)) (w.heap.size + 2) 49 #[.int .i64 0, .int .i64 0, .int .i64 0, .int .i64 0, .int .i64 0, .int .i64 0, .int .i64 0, .int .i64 0, .int .i64 0, .int .i64 0, .int .i64 0, .int .i64 0, .bool false, .int .i64 0, .int .i64 0, .int .i64 0, .int .i64 0, .slice none 0 0] := by have := Bk.new ((w.alloc (.cells #[.int .i64 dq, .int .i64 dr, .int .i64 ds, .int .i64 dn, .int .i64 dt, .int .i64 k, .int .i64 o, .int .i64 lf, .int .i64 i, .int .i64 p, .int .i64 ps, .int .i64 g, .bool s, .int .i64 st, .int .i64 rs, .int .i64 rr, .int .i64 sq, .slice ao l.length cap] 49)).alloc (.cells #[.int .i64 nk, .int .i64 no, .int .i64 nl, .int .i64 ni, .int .i64 np, .int .i64 nps, .int .i64 ng, .bool nS, .int .i64 nst, .int .i64 nrs, .int .i64 nrr, .int .i64 nsq, .slice nao nl2.length ncap] 28)) #[.int .i64 0, .int .i64 0, .int .i64 0, .int .i64 0, .int .i64 0, .int .i64 0, .int .i64 0, .int .i64 0, .int .i64 0, .int .i64 0, .int .i64 0, .int .i64 0, .bool false, .int .i64 0, .int .i64 0, .int .i64 0, .int .i64 0, .slice none 0 0] 49; rwa [e2] at this
  have HCd := fun W h => dCopy k o lf i p ps g s st rs rr sq ao cap l W h (by omega)
  have HOl := fun ao cap W h => (Old_any dq dr ds dn dt k o lf i p ps g s st rs rr sq ao cap l W h).mono fun _ _ h => old_m h
  have HDo := fun ao cap W h => (dOld dq dr ds dn dt k o lf i p ps g s st rs rr sq ao cap l W h).mono fun _ _ h => old_m h
  have HCn := fun W h => dCopy nk no nl ni np nps ng nS nst nrs nrr nsq nao ncap nl2 W h (by omega)
  have HIn := fun ao cap W h => (Inner_any nk no nl ni np nps ng nS nst nrs nrr nsq ao cap nl2 W h).mono fun _ _ h => inner_m h
  have HDi := fun ao cap W h => (dInner nk no nl ni np nps ng nS nst nrs nrr nsq ao cap nl2 W h).mono fun _ _ h => inner_m h
  have hro : ∀ c ∈ (olM dt dq dr ds dn ⟨k, o, lf, i, p, ps, g, s, st, rs, rr, sq, l⟩).body, 0 ≤ c ∧ c ≤ 255 := olM_rng hrl
  have hri : ∀ c ∈ (inM ⟨nk, no, nl, ni, np, nps, ng, nS, nst, nrs, nrr, nsq, nl2⟩).body, 0 ≤ c ∧ c ≤ 255 := inM_rng hrn
  generalize olE dt dq dr ds dn ⟨k, o, lf, i, p, ps, g, s, st, rs, rr, sq, l⟩ = OE at HOl HDo
  generalize olM dt dq dr ds dn ⟨k, o, lf, i, p, ps, g, s, st, rs, rr, sq, l⟩ = om at HOl HDo hro
  generalize inE ⟨nk, no, nl, ni, np, nps, ng, nS, nst, nrs, nrr, nsq, nl2⟩ = IE at HIn HDi
  generalize inM ⟨nk, no, nl, ni, np, nps, ng, nS, nst, nrs, nrr, nsq, nl2⟩ = im at HIn HDi hri
  generalize inD ⟨nk, no, nl, ni, np, nps, ng, nS, nst, nrs, nrr, nsq, nl2⟩ = id5 at HIn HDi
  obtain ⟨ok, oo, olf, oi, op, ops, og, os, ost, ors, orr, osq, ol⟩ := om
  obtain ⟨ik, io, ilf, ii, ip, ips, ig, is, ist, irs, irr, isq, il⟩ := im
  obtain ⟨i1, i2, i3, i4, i5⟩ := id5
  dsimp only at HOl HDo HIn HDi hro hri
  have HD0 : Hid (Bk _ _ _ _) := hD0
  have HN0 : Hid (Bk _ _ _ _) := hN0
  have HI0 : Hid (Bk _ _ _ _) := hI0
  have HA3 : Hid (Mod _ _ _) := hA3
  have HA : Hid (Mod _ _ _) := hA
  clear hD0 hN0 hI0 hA3 hA1 hA2 hA e1 e2
  go_enter Try.func6, Try.ntmps6
  go_upto_region 2 with (first | (refine wpList_load_row info18 Try.underlying49 rfl rfl _ rfl (w.heap.size) rfl HD0.out rfl ?_; simp only [Act.put, List.setIfInBounds_toArray, List.set_cons_succ, List.set_cons_zero]) | (refine wpList_store_row info18 rfl rfl _ _ rfl (w.heap.size + 2) #[.int .i64 dq, .int .i64 dr, .int .i64 ds, .int .i64 dn, .int .i64 dt, .int .i64 k, .int .i64 o, .int .i64 lf, .int .i64 i, .int .i64 p, .int .i64 ps, .int .i64 g, .bool s, .int .i64 st, .int .i64 rs, .int .i64 rr, .int .i64 sq, .slice ao l.length cap] rfl rfl HI0.out rfl rfl rfl ?_; intro w1 hB1 hM1))
  have hM := (HA.out.trans HA3.out (V := fun _ => False) (fun _ _ h => h) (fun _ _ h => h)).trans hM1 (V := fun _ => False) (fun _ _ h => h) (fun q hq h => by omega)
  have hD := (HD0.out.mod HA3.out (fun h => h)).mod hM1 (by omega)
  have hN := (HN0.out.mod HA3.out (fun h => h)).mod hM1 (by omega)
  have hs1 := hs.mod hM (fun _ _ h => h)
  have a5 := hD.cellv (j := 5) rfl
  have a6 := hD.cellv (j := 6) rfl
  have a7 := hD.cellv (j := 7) rfl
  have a8 := hD.cellv (j := 8) rfl
  have a9 := hD.cellv (j := 9) rfl
  have a10 := hD.cellv (j := 10) rfl
  have a11 := hD.cellv (j := 11) rfl
  have a12 := hD.cellv (j := 12) rfl
  have a13 := hD.cellv (j := 13) rfl
  have a14 := hD.cellv (j := 14) rfl
  have a15 := hD.cellv (j := 15) rfl
  have a16 := hD.cellv (j := 16) rfl
  have a17 := hD.cellv (j := 17) rfl
  clear HD0 HN0 HI0 HA3 HA hM1
  go_wp2_with (fail)
  clear a5 a6 a7 a8 a9 a10 a11 a12 a13 a14 a15 a16 a17
  refine (HCd _ hs1).mono ?_
  rintro e w2 ⟨ao', cap', rfl, ho2, hm2, hf2⟩
  replace hM := hM.trans hm2 (V := fun _ => False) (fun _ _ h => h) (fun _ _ h => h)
  replace hD := hD.mod hm2 (fun h => h)
  replace hN := hN.mod hm2 (fun h => h)
  have HB2 : Hid (Bk _ _ _ _) := hB1.mod hm2 (fun h => h)
  have hszb := hB1.lt
  have hsz2 := hm2.size
  have hil := ho2.lt
  have hfi : ∀ q, (.slice ao' l.length cap' : Value).ownBlock = some q → w.heap.size + 2 < q := fun q hq => by have := hf2 q hq; omega
  clear hs1 hB1 hm2 hf2
  go_upto_region 3 with (refine wpList_store_msg info13 rfl rfl _ _ rfl (w.heap.size + 2) _ _ _ _ _ _ _ _ _ _ _ _ _ _ _ _ _ _ _ _ _ _ _ _ _ _ _ _ _ _ _ rfl rfl HB2.out rfl ?_; intro w3 hB3 hM3)
  replace hM := hM.trans hM3 (V := fun _ => False) (fun _ _ h => h) (fun q hq h => by omega)
  replace hD := hD.mod hM3 (by omega)
  replace hN := hN.mod hM3 (by omega)
  have hI := ho2.mod hM3 (fun q hq e => by have := hfi q hq; omega)
  have hsz3 := hM3.size
  have HB3 : Hid (Bk _ _ _ _) := hB3
  clear HB2 hM3 ho2 hB3 hil
  go_wp2_with (refine wpList_load_row info18 Try.underlying49 rfl rfl _ rfl (w.heap.size + 2) rfl HB3.out rfl ?_; simp only [Act.put, List.setIfInBounds_toArray, List.set_cons_succ, List.set_cons_zero])
  refine (HOl _ _ _ (hI.sl hrl)).mono ?_
  rintro e w4 ⟨xo, xc, rfl, hm4, hx, hfx⟩
  have hA4 := hm4.trans ((Mod.refl (fun _ => False) w4).alloc (.cells #[.int .i64 ok, .int .i64 oo, .int .i64 olf, .int .i64 oi, .int .i64 op, .int .i64 ops, .int .i64 og, .bool os, .int .i64 ost, .int .i64 ors, .int .i64 orr, .int .i64 osq, .slice xo ol.length xc] 28)) (V := fun _ => False) (fun _ _ h => h) (fun _ _ h => h)
  have hX := Bk.new w4 #[.int .i64 ok, .int .i64 oo, .int .i64 olf, .int .i64 oi, .int .i64 op, .int .i64 ops, .int .i64 og, .bool os, .int .i64 ost, .int .i64 ors, .int .i64 orr, .int .i64 osq, .slice xo ol.length xc] 28
  replace hM := hM.trans hA4 (V := fun _ => False) (fun _ _ h => h) (fun _ _ h => h)
  have HD4 : Hid (Bk _ _ _ _) := hD.mod hA4 (fun h => h)
  replace hN := hN.mod hA4 (fun h => h)
  replace hI := hI.mod hA4 (fun _ _ h => h)
  replace HB3 : Hid (Bk _ _ _ _) := HB3.out.mod hA4 (fun h => h)
  replace hx := hx.mod ((Mod.refl (fun _ => False) w4).alloc (.cells #[.int .i64 ok, .int .i64 oo, .int .i64 olf, .int .i64 oi, .int .i64 op, .int .i64 ops, .int .i64 og, .bool os, .int .i64 ost, .int .i64 ors, .int .i64 orr, .int .i64 osq, .slice xo ol.length xc] 28)) (fun _ _ h => h)
  have hsz4 := hm4.size
  clear hA4 hm4 hD
  go_wp2_with (refine wpList_load_row info18 Try.underlying49 rfl rfl _ rfl (w.heap.size) rfl HD4.out rfl ?_; simp only [Act.put, List.setIfInBounds_toArray, List.set_cons_succ, List.set_cons_zero])
  generalize hbx : w4.heap.size = bx at *
  generalize w4.alloc (.cells #[.int .i64 ok, .int .i64 oo, .int .i64 olf, .int .i64 oi, .int .i64 op, .int .i64 ops, .int .i64 og, .bool os, .int .i64 ost, .int .i64 ors, .int .i64 orr, .int .i64 osq, .slice xo ol.length xc] 28) = w5 at *
  refine (HDo _ _ _ (hs.mod hM (fun _ _ h => h))).mono ?_
  rintro e w6 ⟨yo, yc, rfl, hm6, hy, hfy⟩
  have hA6 := hm6.trans ((Mod.refl (fun _ => False) w6).alloc (.cells #[.int .i64 ok, .int .i64 oo, .int .i64 olf, .int .i64 oi, .int .i64 op, .int .i64 ops, .int .i64 og, .bool os, .int .i64 ost, .int .i64 ors, .int .i64 orr, .int .i64 osq, .slice yo ol.length yc] 28)) (V := fun _ => False) (fun _ _ h => h) (fun _ _ h => h)
  have hY := Bk.new w6 #[.int .i64 ok, .int .i64 oo, .int .i64 olf, .int .i64 oi, .int .i64 op, .int .i64 ops, .int .i64 og, .bool os, .int .i64 ost, .int .i64 ors, .int .i64 orr, .int .i64 osq, .slice yo ol.length yc] 28
  replace hM := hM.trans hA6 (V := fun _ => False) (fun _ _ h => h) (fun _ _ h => h)
  replace HD4 : Hid (Bk _ _ _ _) := HD4.out.mod hA6 (fun h => h)
  replace hN := hN.mod hA6 (fun h => h)
  replace hX := hX.mod hA6 (fun h => h)
  replace hI := hI.mod hA6 (fun _ _ h => h)
  replace hx := hx.mod hA6 (fun _ _ h => h)
  replace HB3 : Hid (Bk _ _ _ _) := HB3.out.mod hA6 (fun h => h)
  replace hy := hy.mod ((Mod.refl (fun _ => False) w6).alloc (.cells #[.int .i64 ok, .int .i64 oo, .int .i64 olf, .int .i64 oi, .int .i64 op, .int .i64 ops, .int .i64 og, .bool os, .int .i64 ost, .int .i64 ors, .int .i64 orr, .int .i64 osq, .slice yo ol.length yc] 28)) (fun _ _ h => h)
  clear hA6 hm6
  have a0 := hN.cellv (j := 0) rfl
  have a1 := hN.cellv (j := 1) rfl
  have a2 := hN.cellv (j := 2) rfl
  have a3 := hN.cellv (j := 3) rfl
  have a4 := hN.cellv (j := 4) rfl
  have a5 := hN.cellv (j := 5) rfl
  have a6 := hN.cellv (j := 6) rfl
  have a7 := hN.cellv (j := 7) rfl
  have a8 := hN.cellv (j := 8) rfl
  have a9 := hN.cellv (j := 9) rfl
  have a10 := hN.cellv (j := 10) rfl
  have a11 := hN.cellv (j := 11) rfl
  have a12 := hN.cellv (j := 12) rfl
  go_wp2_with (fail)
  clear a0 a1 a2 a3 a4 a5 a6 a7 a8 a9 a10 a11 a12
  generalize hby : w6.heap.size = by_ at *
  generalize w6.alloc (.cells #[.int .i64 ok, .int .i64 oo, .int .i64 olf, .int .i64 oi, .int .i64 op, .int .i64 ops, .int .i64 og, .bool os, .int .i64 ost, .int .i64 ors, .int .i64 orr, .int .i64 osq, .slice yo ol.length yc] 28) = w7 at *
  refine (HCn _ (hn.mod hM (fun _ _ h => h))).mono ?_
  rintro e w8 ⟨no', nc', rfl, ho8, hm8, hf8⟩
  go_wp2_with (fail)
  refine (HIn _ _ _ (ho8.sl hrn)).mono ?_
  rintro e w9 ⟨co, cc, rfl, hm9, hc, hfc⟩
  have hm89 := hm8.trans hm9 (V := fun _ => False) (fun _ _ h => h) (fun _ _ h => h)
  have hlx := (hX.mod hm89 (fun h => h)).lt
  have hly := (hY.mod hm89 (fun h => h)).lt
  have hln := (hN.mod hm89 (fun h => h)).lt
  have hld := (HD4.out.mod hm89 (fun h => h)).lt
  have hlb := (HB3.out.mod hm89 (fun h => h)).lt
  have hlM := (hM.trans hm89 (V := fun _ => False) (fun _ _ h => h) (fun _ _ h => h)).size
  have hlc := hc.lt
  have hlI := (hI.mod hm89 (fun _ _ h => h)).lt
  have hlxx := (hx.mod hm89 (fun _ _ h => h)).lt
  have hlyy := (hy.mod hm89 (fun _ _ h => h)).lt
  have hA9 := hm89.trans ((Mod.refl (fun _ => False) w9).alloc (.cells #[.int .i64 0, .int .i64 0, .int .i64 0, .int .i64 0, .int .i64 0, .int .i64 0, .int .i64 0, .int .i64 0, .int .i64 0, .int .i64 0, .int .i64 0, .int .i64 0, .bool false, .int .i64 0, .int .i64 0, .int .i64 0, .int .i64 0, .slice none 0 0] 49)) (V := fun _ => False) (fun _ _ h => h) (fun _ _ h => h)
  replace hM := hM.trans hA9 (V := fun _ => False) (fun _ _ h => h) (fun _ _ h => h)
  replace HD4 : Hid (Bk _ _ _ _) := HD4.out.mod hA9 (fun h => h)
  replace hN := hN.mod hA9 (fun h => h)
  replace hX := hX.mod hA9 (fun h => h)
  replace hY := hY.mod hA9 (fun h => h)
  replace hI := hI.mod hA9 (fun _ _ h => h)
  replace hx := hx.mod hA9 (fun _ _ h => h)
  replace hy := hy.mod hA9 (fun _ _ h => h)
  replace HB3 : Hid (Bk _ _ _ _) := HB3.out.mod hA9 (fun h => h)
  replace hc := hc.mod ((Mod.refl (fun _ => False) w9).alloc (.cells #[.int .i64 0, .int .i64 0, .int .i64 0, .int .i64 0, .int .i64 0, .int .i64 0, .int .i64 0, .int .i64 0, .int .i64 0, .int .i64 0, .int .i64 0, .int .i64 0, .bool false, .int .i64 0, .int .i64 0, .int .i64 0, .int .i64 0, .slice none 0 0] 49)) (fun _ _ h => h)
  have HC9 : Hid (Bk _ _ _ _) := Bk.new w9 #[.int .i64 0, .int .i64 0, .int .i64 0, .int .i64 0, .int .i64 0, .int .i64 0, .int .i64 0, .int .i64 0, .int .i64 0, .int .i64 0, .int .i64 0, .int .i64 0, .bool false, .int .i64 0, .int .i64 0, .int .i64 0, .int .i64 0, .slice none 0 0] 49
  have hs9 := hA9.size
  clear hA9 hm9 hm8 ho8 hf8 hm89
  go_upto_region 6 with (refine wpList_store_row info18 rfl rfl _ _ rfl (w9.heap.size) #[.int .i64 i1, .int .i64 i2, .int .i64 i3, .int .i64 i4, .int .i64 i5, .int .i64 ik, .int .i64 io, .int .i64 ilf, .int .i64 ii, .int .i64 ip, .int .i64 ips, .int .i64 ig, .bool is, .int .i64 ist, .int .i64 irs, .int .i64 irr, .int .i64 isq, .slice co il.length cc] rfl rfl HC9.out rfl rfl rfl ?_; intro w10 hC10 hM10)
  generalize hbc : w9.heap.size = bc at *
  replace hM := hM.trans hM10 (V := fun _ => False) (fun _ _ h => h) (fun q hq h => by omega)
  replace HD4 : Hid (Bk _ _ _ _) := HD4.out.mod hM10 (by omega)
  replace hN := hN.mod hM10 (by omega)
  replace hX := hX.mod hM10 (by omega)
  replace hY := hY.mod hM10 (by omega)
  replace HB3 : Hid (Bk _ _ _ _) := HB3.out.mod hM10 (by omega)
  replace hI := hI.mod hM10 (fun q hq e => by have := hlI q hq; omega)
  replace hx := hx.mod hM10 (fun q hq e => by have := hlxx q hq; omega)
  replace hy := hy.mod hM10 (fun q hq e => by have := hlyy q hq; omega)
  replace hc := hc.mod hM10 (fun q hq e => by have := hlc q hq; omega)
  have hlc10 := hC10.lt
  clear hM10 HC9 hlI hlxx hlyy hlc
  have a0 := hN.cellv (j := 0) rfl
  have a1 := hN.cellv (j := 1) rfl
  have a2 := hN.cellv (j := 2) rfl
  have a3 := hN.cellv (j := 3) rfl
  have a4 := hN.cellv (j := 4) rfl
  have a5 := hN.cellv (j := 5) rfl
  have a6 := hN.cellv (j := 6) rfl
  have a7 := hN.cellv (j := 7) rfl
  have a8 := hN.cellv (j := 8) rfl
  have a9 := hN.cellv (j := 9) rfl
  have a10 := hN.cellv (j := 10) rfl
  have a11 := hN.cellv (j := 11) rfl
  have a12 := hN.cellv (j := 12) rfl
  go_wp2_with (fail)
  clear a0 a1 a2 a3 a4 a5 a6 a7 a8 a9 a10 a11 a12
  refine (HDi _ _ _ (hn.mod hM (fun _ _ h => h))).mono ?_
  rintro e w11 ⟨dO, dc, rfl, hm11, hd, hfd⟩
  have hl11 := hm11.size
  have hld2 := hd.lt
  have hA11 := hm11.trans ((Mod.refl (fun _ => False) w11).alloc (.cells #[.int .i64 0, .int .i64 0, .int .i64 0, .int .i64 0, .int .i64 0, .int .i64 0, .int .i64 0, .int .i64 0, .int .i64 0, .int .i64 0, .int .i64 0, .int .i64 0, .bool false, .int .i64 0, .int .i64 0, .int .i64 0, .int .i64 0, .slice none 0 0] 49)) (V := fun _ => False) (fun _ _ h => h) (fun _ _ h => h)
  replace hM := hM.trans hA11 (V := fun _ => False) (fun _ _ h => h) (fun _ _ h => h)
  replace HD4 : Hid (Bk _ _ _ _) := HD4.out.mod hA11 (fun h => h)
  replace hX := hX.mod hA11 (fun h => h)
  replace hY := hY.mod hA11 (fun h => h)
  replace hC10 := hC10.mod hA11 (fun h => h)
  replace HB3 : Hid (Bk _ _ _ _) := HB3.out.mod hA11 (fun h => h)
  have hlI := (hI.mod hm11 (fun _ _ h => h)).lt
  have hlxx := (hx.mod hm11 (fun _ _ h => h)).lt
  have hlyy := (hy.mod hm11 (fun _ _ h => h)).lt
  have hlc := (hc.mod hm11 (fun _ _ h => h)).lt
  replace hI := hI.mod hA11 (fun _ _ h => h)
  replace hx := hx.mod hA11 (fun _ _ h => h)
  replace hy := hy.mod hA11 (fun _ _ h => h)
  replace hc := hc.mod hA11 (fun _ _ h => h)
  replace hd := hd.mod ((Mod.refl (fun _ => False) w11).alloc (.cells #[.int .i64 0, .int .i64 0, .int .i64 0, .int .i64 0, .int .i64 0, .int .i64 0, .int .i64 0, .int .i64 0, .int .i64 0, .int .i64 0, .int .i64 0, .int .i64 0, .bool false, .int .i64 0, .int .i64 0, .int .i64 0, .int .i64 0, .slice none 0 0] 49)) (fun _ _ h => h)
  have HC9 : Hid (Bk _ _ _ _) := Bk.new w11 #[.int .i64 0, .int .i64 0, .int .i64 0, .int .i64 0, .int .i64 0, .int .i64 0, .int .i64 0, .int .i64 0, .int .i64 0, .int .i64 0, .int .i64 0, .int .i64 0, .bool false, .int .i64 0, .int .i64 0, .int .i64 0, .int .i64 0, .slice none 0 0] 49
  have hlM11 : w.heap.size ≤ w11.heap.size := by omega
  clear hA11 hm11 hN
  go_upto_region 7 with (refine wpList_store_row info18 rfl rfl _ _ rfl (w11.heap.size) #[.int .i64 i1, .int .i64 i2, .int .i64 i3, .int .i64 i4, .int .i64 i5, .int .i64 ik, .int .i64 io, .int .i64 ilf, .int .i64 ii, .int .i64 ip, .int .i64 ips, .int .i64 ig, .bool is, .int .i64 ist, .int .i64 irs, .int .i64 irr, .int .i64 isq, .slice dO il.length dc] rfl rfl HC9.out rfl rfl rfl ?_; intro w12 hE12 hM12)
  generalize hbd : w11.heap.size = bd at *
  replace hM := hM.trans hM12 (V := fun _ => False) (fun _ _ h => h) (fun q hq h => by omega)
  replace HD4 : Hid (Bk _ _ _ _) := HD4.out.mod hM12 (by omega)
  replace hX := hX.mod hM12 (by omega)
  replace hY := hY.mod hM12 (by omega)
  have HC12 : Hid (Bk _ _ _ _) := hC10.mod hM12 (by omega)
  have HE12 : Hid (Bk _ _ _ _) := hE12
  replace HB3 : Hid (Bk _ _ _ _) := HB3.out.mod hM12 (by omega)
  replace hI := hI.mod hM12 (fun q hq e => by have := hlI q hq; omega)
  replace hx := hx.mod hM12 (fun q hq e => by have := hlxx q hq; omega)
  replace hy := hy.mod hM12 (fun q hq e => by have := hlyy q hq; omega)
  replace hc := hc.mod hM12 (fun q hq e => by have := hlc q hq; omega)
  replace hd := hd.mod hM12 (fun q hq e => by have := hld2 q hq; omega)
  have a0 := hX.cellv (j := 0) rfl
  have a1 := hX.cellv (j := 1) rfl
  have a2 := hX.cellv (j := 2) rfl
  have a3 := hX.cellv (j := 3) rfl
  have a4 := hX.cellv (j := 4) rfl
  have a5 := hX.cellv (j := 5) rfl
  have a6 := hX.cellv (j := 6) rfl
  have a7 := hX.cellv (j := 7) rfl
  have a8 := hX.cellv (j := 8) rfl
  have a9 := hX.cellv (j := 9) rfl
  have a10 := hX.cellv (j := 10) rfl
  have a11 := hX.cellv (j := 11) rfl
  have a12 := hX.cellv (j := 12) rfl
  have b0 := hY.cellv (j := 0) rfl
  have b1 := hY.cellv (j := 1) rfl
  have b2 := hY.cellv (j := 2) rfl
  have b3 := hY.cellv (j := 3) rfl
  have b4 := hY.cellv (j := 4) rfl
  have b5 := hY.cellv (j := 5) rfl
  have b6 := hY.cellv (j := 6) rfl
  have b7 := hY.cellv (j := 7) rfl
  have b8 := hY.cellv (j := 8) rfl
  have b9 := hY.cellv (j := 9) rfl
  have b10 := hY.cellv (j := 10) rfl
  have b11 := hY.cellv (j := 11) rfl
  have b12 := hY.cellv (j := 12) rfl
  have HSm := Same_eq ok oo olf oi op ops og os ost ors orr osq _ _ _ _ ol w12 (hx.sl hro) (hy.sl hro)
  clear hC10 hE12 HC9 hM12 hX hY hx hy hlI hlxx hlyy hlc hld2
  go_wp2_with (fail)
  refine HSm.mono ?_
  rintro e w13 ⟨rfl, hm13⟩
  clear a0 a1 a2 a3 a4 a5 a6 a7 a8 a9 a10 a11 a12
  clear b0 b1 b2 b3 b4 b5 b6 b7 b8 b9 b10 b11 b12
  replace hM := hM.trans hm13 (V := fun _ => False) (fun _ _ h => h) (fun _ _ h => h)
  replace HD4 : Hid (Bk _ _ _ _) := HD4.out.mod hm13 (fun h => h)
  replace HC12 : Hid (Bk _ _ _ _) := HC12.out.mod hm13 (fun h => h)
  replace HE12 : Hid (Bk _ _ _ _) := HE12.out.mod hm13 (fun h => h)
  replace HB3 : Hid (Bk _ _ _ _) := HB3.out.mod hm13 (fun h => h)
  replace hI := hI.mod hm13 (fun _ _ h => h)
  have HSD := SameData_eq i1 i2 i3 i4 i5 ik io ilf ii ip ips ig is ist irs irr isq _ _ _ _ il w13 ((hc.mod hm13 (fun _ _ h => h)).sl hri) ((hd.mod hm13 (fun _ _ h => h)).sl hri)
  clear hm13 hc hd HSm
  go_wp2_with (first | (refine wpList_load_rowg info18 Try.underlying49 rfl rfl _ rfl (bc) rfl HC12.out rfl ?_; simp only [Act.put, List.setIfInBounds_toArray, List.set_cons_succ, List.set_cons_zero]) | (refine wpList_load_rowg info18 Try.underlying49 rfl rfl _ rfl (bd) rfl HE12.out rfl ?_; simp only [Act.put, List.setIfInBounds_toArray, List.set_cons_succ, List.set_cons_zero]))
  refine HSD.mono ?_
  rintro e w14 ⟨rfl, hm14⟩
  replace hM := hM.trans hm14 (V := fun _ => False) (fun _ _ h => h) (fun _ _ h => h)
  replace HD4 : Hid (Bk _ _ _ _) := HD4.out.mod hm14 (fun h => h)
  replace HB3 : Hid (Bk _ _ _ _) := HB3.out.mod hm14 (fun h => h)
  replace hI := hI.mod hm14 (fun _ _ h => h)
  have HSE := SameData_eq dq dr ds dn dt k o lf i p ps g s st rs rr sq _ _ _ _ l w14 (hI.sl hrl) (hs.mod hM (fun _ _ h => h))
  clear hm14 HSD HC12 HE12
  go_wp2_with (first | (refine wpList_load_rowg info18 Try.underlying49 rfl rfl _ rfl (w.heap.size + 2) rfl HB3.out rfl ?_; simp only [Act.put, List.setIfInBounds_toArray, List.set_cons_succ, List.set_cons_zero]) | (refine wpList_load_rowg info18 Try.underlying49 rfl rfl _ rfl (w.heap.size) rfl HD4.out rfl ?_; simp only [Act.put, List.setIfInBounds_toArray, List.set_cons_succ, List.set_cons_zero]))
  refine HSE.mono ?_
  rintro e w15 ⟨rfl, hm15⟩
  replace hM := hM.trans hm15 (V := fun _ => False) (fun _ _ h => h) (fun _ _ h => h)
  clear hm15 HSE HD4 HB3 hI
  go_wp2_with (fail)
  refine (awake _).mono ?_
  rintro e w16 ⟨rfl, hm16⟩
  go_wp2
  go_ret
  exact ⟨by simp, hM.trans hm16 (V := fun _ => False) (fun _ _ h => h) (fun _ _ h => h)⟩
end Go.Proofs.Ytajhpnfpjickbaa
