/- The law's awake: the chapter's window. No conditions. -/
import Derived.Test.YthiijonmnebjgaaMd
namespace Go.Proofs.Ythiijonmnebjgaa
open Go.RowKit
theorem Gone.apart {w : World} {X X' Z : Nat → Prop} (hg : Gone w X X') (hz : ∀ i, Z i → i < w.heap.size) (hd : ∀ i, Z i → ¬ X i) : ∀ i, Z i → ¬ X' i := fun i hi h => by
  rcases hg i h with h | h
  · exact hd i hi h
  · have := hz i hi; omega
def S0 : Int → Bool := fun _ => false
theorem is21 : isr 2 1 = true := rfl
theorem cr21 : cr 2 1 = 0 := rfl
theorem kz24 : Kz (ins (ins (ins S0 1) 2) 4) 1 [2, 4] := ⟨by decide, fun x => by
  simp only [ins, S0, List.mem_cons, List.not_mem_nil, or_false, Bool.false_or, Bool.or_eq_true, beq_iff_eq]
  omega⟩
theorem mc_old {m : Ms} {v : Value} : mvl m v = .agg #[.int .i64 (m).kind, .int .i64 (m).origin, .int .i64 (m).life, .int .i64 (m).id, .int .i64 (m).part, .int .i64 (m).parts, .int .i64 (m).groups, .bool (m).safe, .int .i64 (m).st, .int .i64 (m).rs, .int .i64 (m).rr, .int .i64 (m).sq, v] := rfl
set_option maxRecDepth 100000 in
set_option maxHeartbeats 8000000 in
theorem awake_any (w : World) : Calls Try.prog 5 #[] w fun e w' => e = .returned (.bool true) ∧ Mod (fun _ => False) w w' := by
  go_enter Try.func5, Try.ntmps5
  go_wp2_with (fail)
  refine (wNew w).mono ?_
  rintro e w1 ⟨p, X, rfl, hw1, hX1, hm1⟩
  go_wp2_with (fail)
  refine (wNew w1).mono ?_
  rintro e w2 ⟨p2, Z, rfl, hv2, hZ2, hm2⟩
  have HW2 : Hid (Wn w2 p X (jOf 2 1 S0) 0 0 0) := hw1.keep hm2
  have HV2 : Hid (Wn w2 p2 Z (jOf 2 1 S0) 0 0 0) := hv2
  have HD2 : Hid (∀ i, Z i → ¬ X i) := fun i hi h => by have := hw1.mem.lt i h; have := hZ2 i hi; omega
  have HB2 : Hid (Mod X w w2 ∧ (∀ i, X i → w.heap.size ≤ i) ∧ (∀ i, Z i → w.heap.size ≤ i)) := ⟨(hm1.and hm2).none, hX1, fun i hi => by have := hZ2 i hi; have := hm1.size; omega⟩
  clear hw1 hX1 hm1 hv2 hZ2 hm2
  go_wp2_with (fail)
  refine (one_any 1 _ (by decide)).mono ?_
  rintro e wo0 ⟨v0, rfl, ho, hg, hm⟩
  have hP := Put_j (HW2.out.keep hm) cr21 1 (by decide) v0 (ho.sl (by decide)) (by decide)
  unfold dv at hP
  unfold dv on
  have HMO : Hid (Mod (fun _ => False) w2 wo0) := hm
  have HVO : Hid (Wn wo0 p2 Z (jOf 2 1 S0) 0 0 0) := HV2.out.keep hm
  clear ho hg hm
  go_wp2_with (fail)
  refine hP.mono ?_
  rintro e wp0 ⟨X1, a0, rfl, hw, hm, hg⟩
  have HWwp0 : Hid (Wn wp0 p X1 (jOf 2 1 (ins S0 1)) a0 _ 1) := hw
  have HVwp0 : Hid (Wn wp0 p2 Z (jOf 2 1 S0) 0 0 0) := HVO.out.mod hm HD2.out
  have HDwp0 : Hid (∀ i, Z i → ¬ X1 i) := hg.apart HVO.out.mem.lt HD2.out
  have HBwp0 : Hid (Mod (fun i => w.heap.size ≤ i) w wp0 ∧ (∀ i, X1 i → w.heap.size ≤ i) ∧ (∀ i, Z i → w.heap.size ≤ i)) := by
    obtain ⟨b1, b2, b3⟩ := HB2.out
    have hs := b1.size
    have hs2 := HMO.out.size
    refine ⟨((b1.mono (fun i _ hi => b2 i hi)).trans HMO.out (V := fun i => w.heap.size ≤ i) (fun _ _ h => h) (fun _ _ h => h.elim)).trans hm (fun _ _ h => h) (fun i _ hi => b2 i hi), fun i hi => ?_, b3⟩
    rcases hg i hi with h | h
    · exact b2 i h
    · omega
  clear hP hw hm hg HVO HMO HW2 HV2 HD2 HB2
  go_wp2_with (fail)
  refine (one_any 2 _ (by decide)).mono ?_
  rintro e wo1 ⟨v1, rfl, ho, hg, hm⟩
  have hP := Put_j (HWwp0.out.keep hm) cr21 2 (by decide) v1 (ho.sl (by decide)) (by decide)
  unfold dv at hP
  unfold dv on
  have HMO : Hid (Mod (fun _ => False) wp0 wo1) := hm
  have HVO : Hid (Wn wo1 p2 Z (jOf 2 1 S0) 0 0 0) := HVwp0.out.keep hm
  clear ho hg hm
  go_wp2_with (fail)
  refine hP.mono ?_
  rintro e wp1 ⟨X2, a1, rfl, hw, hm, hg⟩
  have HWwp1 : Hid (Wn wp1 p X2 (jOf 2 1 (ins (ins S0 1) 2)) a1 _ 2) := hw
  have HVwp1 : Hid (Wn wp1 p2 Z (jOf 2 1 S0) 0 0 0) := HVO.out.mod hm HDwp0.out
  have HDwp1 : Hid (∀ i, Z i → ¬ X2 i) := hg.apart HVO.out.mem.lt HDwp0.out
  have HBwp1 : Hid (Mod (fun i => w.heap.size ≤ i) w wp1 ∧ (∀ i, X2 i → w.heap.size ≤ i) ∧ (∀ i, Z i → w.heap.size ≤ i)) := by
    obtain ⟨b1, b2, b3⟩ := HBwp0.out
    have hs := b1.size
    have hs2 := HMO.out.size
    refine ⟨((b1.mono (fun i _ hi => hi)).trans HMO.out (V := fun i => w.heap.size ≤ i) (fun _ _ h => h) (fun _ _ h => h.elim)).trans hm (fun _ _ h => h) (fun i _ hi => b2 i hi), fun i hi => ?_, b3⟩
    rcases hg i hi with h | h
    · exact b2 i h
    · omega
  clear hP hw hm hg HVO HMO HWwp0 HVwp0 HDwp0 HBwp0
  go_wp2_with (fail)
  refine (one_any 4 _ (by decide)).mono ?_
  rintro e wo2 ⟨v2, rfl, ho, hg, hm⟩
  have hP := Put_j (HWwp1.out.keep hm) cr21 4 (by decide) v2 (ho.sl (by decide)) (by decide)
  unfold dv at hP
  unfold dv on
  have HMO : Hid (Mod (fun _ => False) wp1 wo2) := hm
  have HVO : Hid (Wn wo2 p2 Z (jOf 2 1 S0) 0 0 0) := HVwp1.out.keep hm
  clear ho hg hm
  go_wp2_with (fail)
  refine hP.mono ?_
  rintro e wp2 ⟨X3, a2, rfl, hw, hm, hg⟩
  have HWwp2 : Hid (Wn wp2 p X3 (jOf 2 1 (ins (ins (ins S0 1) 2) 4)) a2 _ 3) := hw
  have HVwp2 : Hid (Wn wp2 p2 Z (jOf 2 1 S0) 0 0 0) := HVO.out.mod hm HDwp1.out
  have HDwp2 : Hid (∀ i, Z i → ¬ X3 i) := hg.apart HVO.out.mem.lt HDwp1.out
  have HBwp2 : Hid (Mod (fun i => w.heap.size ≤ i) w wp2 ∧ (∀ i, X3 i → w.heap.size ≤ i) ∧ (∀ i, Z i → w.heap.size ≤ i)) := by
    obtain ⟨b1, b2, b3⟩ := HBwp1.out
    have hs := b1.size
    have hs2 := HMO.out.size
    refine ⟨((b1.mono (fun i _ hi => hi)).trans HMO.out (V := fun i => w.heap.size ≤ i) (fun _ _ h => h) (fun _ _ h => h.elim)).trans hm (fun _ _ h => h) (fun i _ hi => b2 i hi), fun i hi => ?_, b3⟩
    rcases hg i hi with h | h
    · exact b2 i h
    · omega
  clear hP hw hm hg HVO HMO HWwp1 HVwp1 HDwp1 HBwp1
  have HNR := New_j HWwp2.out is21 (fun k hk => by simp only [ins, S0, Bool.false_or, Bool.or_eq_true, beq_iff_eq] at hk; omega) (by decide) 1
  go_wp2_with (fail)
  refine HNR.mono ?_
  rintro e wr ⟨b, zs, rfl, hK, hR, hm⟩
  obtain rfl := hK.uniq kz24
  have hV := HVwp2.out.keep hm
  have HVr : Hid (Wn wr p2 Z (jOf 2 1 S0) 0 0 0) := hV
  have HLr := Left_r hR
  have HRr : Hid (Rg wr b _ [oldm (onR 2 1 2), oldm (onR 2 1 4)]) := hR
  have HYr : Hid (∀ i, Z i → i < wp2.heap.size) := HVwp2.out.mem.lt
  have HZN : Hid (∀ i, wr.heap.size ≤ i → ¬ Z i) := fun i h hi => by have := HVwp2.out.mem.lt i hi; have := hm.size; omega
  have HBr : Hid (Mod (fun i => w.heap.size ≤ i) w wr ∧ (∀ i, Z i → w.heap.size ≤ i) ∧ w.heap.size ≤ wp2.heap.size) := by
    obtain ⟨b1, b2, b3⟩ := HBwp2.out
    exact ⟨b1.trans hm (fun _ _ h => h) (fun _ _ h => h.elim), b3, b1.size⟩
  simp only [List.map_cons, List.map_nil, List.length_cons, List.length_nil] at HLr
  clear HNR hK hR hV hm HVwp2 HDwp2 HBwp2 HWwp2
  go_wp2_with (first | (go_at_call 11; refine HLr.mono ?_; rintro e w' ⟨rfl, e1⟩; replace e1 := e1.symm; subst e1))
  have HN1 := Next_cons HRr.out
  unfold mvl at HN1
  go_wp2_with (fail)
  refine HN1.mono ?_
  rintro e x1 ⟨va, rfl, hoa, hga, hra, -, hR1, hm1⟩
  obtain ⟨aa, ca, rfl⟩ := hoa.shape
  obtain ⟨la, ela⟩ : ∃ la, (oldm (onR 2 1 2)).body.length = la := ⟨_, rfl⟩
  rw [ela] at hoa hga ⊢
  have HLA : Hid ((oldm (onR 2 1 2)).body.length = la) := ela
  clear ela HN1
  obtain ⟨yd, hyd⟩ : ∃ Y : Nat → Prop, Y = (fun i => wp2.heap.size ≤ i ∧ i < wr.heap.size) := ⟨_, rfl⟩
  have HYD : Hid (Mod yd wr x1 ∧ (∀ i, yd i → wp2.heap.size ≤ i ∧ i < wr.heap.size)) := by
    rw [hyd]
    exact ⟨hm1, fun i h => h⟩
  rw [← hyd] at hR1
  have HR1 : Hid (Rg x1 b yd [oldm (onR 2 1 4)]) := hR1
  have HZ1 : Hid (∀ i, Z i → ¬ yd i) := fun i hi h => by have := HYr.out i hi; have := (HYD.out.2 i h).1; omega
  have HV1 : Hid (Wn x1 p2 Z (jOf 2 1 S0) 0 0 0) := HVr.out.mod HYD.out.1 HZ1.out
  have HOA1 : Hid (Own x1 (.slice aa la ca) (oldm (onR 2 1 2)).body ∧ (∀ g, (Value.slice aa la ca).ownBlock = some g → wr.heap.size ≤ g) ∧ (∀ c ∈ (oldm (onR 2 1 2)).body, 0 ≤ c ∧ c ≤ 255)) := ⟨hoa, hga, hra⟩
  clear hoa hga hra hR1 hm1 hyd HRr HVr HYr HLr
  go_upto_region 11 with (refine wpList_store_row infoM rfl rfl _ _ rfl x1.heap.size #[.int .i64 (oldm (onR 2 1 2)).kind, .int .i64 (oldm (onR 2 1 2)).origin, .int .i64 (oldm (onR 2 1 2)).life, .int .i64 (oldm (onR 2 1 2)).id, .int .i64 (oldm (onR 2 1 2)).part, .int .i64 (oldm (onR 2 1 2)).parts, .int .i64 (oldm (onR 2 1 2)).groups, .bool (oldm (onR 2 1 2)).safe, .int .i64 (oldm (onR 2 1 2)).st, .int .i64 (oldm (onR 2 1 2)).rs, .int .i64 (oldm (onR 2 1 2)).rr, .int .i64 (oldm (onR 2 1 2)).sq, .slice aa la ca] rfl rfl (Bk.new x1 _ _) rfl rfl rfl ?_; intro x2 hBA hmA)
  obtain ⟨ba, eba⟩ : ∃ ba, ba = x1.heap.size := ⟨_, rfl⟩
  rw [← eba] at hBA ⊢
  have HMA : Hid (Mod (fun _ => False) x1 x2) := ((Mod.refl (fun _ => False) x1).alloc _).trans hmA (V := fun _ => False) (fun _ _ h => h) (fun i hi e => by omega)
  have HBA2 : Hid (Bk x2 ba 39 #[.int .i64 (oldm (onR 2 1 2)).kind, .int .i64 (oldm (onR 2 1 2)).origin, .int .i64 (oldm (onR 2 1 2)).life, .int .i64 (oldm (onR 2 1 2)).id, .int .i64 (oldm (onR 2 1 2)).part, .int .i64 (oldm (onR 2 1 2)).parts, .int .i64 (oldm (onR 2 1 2)).groups, .bool (oldm (onR 2 1 2)).safe, .int .i64 (oldm (onR 2 1 2)).st, .int .i64 (oldm (onR 2 1 2)).rs, .int .i64 (oldm (onR 2 1 2)).rr, .int .i64 (oldm (onR 2 1 2)).sq, .slice aa la ca]) := hBA
  have HEB : Hid (ba = x1.heap.size) := eba
  have HZA : Hid (¬ Z ba ∧ ∀ g, (Value.slice aa la ca).ownBlock = some g → ¬ Z g) := ⟨HZN.out ba (by have := HYD.out.1.size; omega), fun g hg => HZN.out g (HOA1.out.2.1 g hg)⟩
  have HN2 := Next_cons (HR1.out.keep HMA.out)
  unfold mvl at HN2
  clear hBA hmA eba
  go_wp2_with (fail)
  refine HN2.mono ?_
  rintro e x3 ⟨vb, rfl, hob, hgb, hrb, -, hR2, hm2⟩
  obtain ⟨ab, cb, rfl⟩ := hob.shape
  obtain ⟨lb, elb⟩ : ∃ lb, (oldm (onR 2 1 4)).body.length = lb := ⟨_, rfl⟩
  rw [elb] at hob hgb ⊢
  clear elb HN2
  have HM2 : Hid (Mod yd x2 x3) := hm2
  have HR2 : Hid (Rg x3 b yd []) := hR2
  have hs1 : wr.heap.size ≤ x1.heap.size := HYD.out.1.size
  have HOA3 : Hid (Own x3 (.slice aa la ca) (oldm (onR 2 1 2)).body) := (HOA1.out.1.mod HMA.out (fun _ _ h => h)).mod hm2 (fun g hg h => by have := HOA1.out.2.1 g hg; have := (HYD.out.2 g h).2; omega)
  have HBA3 : Hid (Bk x3 ba 39 #[.int .i64 (oldm (onR 2 1 2)).kind, .int .i64 (oldm (onR 2 1 2)).origin, .int .i64 (oldm (onR 2 1 2)).life, .int .i64 (oldm (onR 2 1 2)).id, .int .i64 (oldm (onR 2 1 2)).part, .int .i64 (oldm (onR 2 1 2)).parts, .int .i64 (oldm (onR 2 1 2)).groups, .bool (oldm (onR 2 1 2)).safe, .int .i64 (oldm (onR 2 1 2)).st, .int .i64 (oldm (onR 2 1 2)).rs, .int .i64 (oldm (onR 2 1 2)).rr, .int .i64 (oldm (onR 2 1 2)).sq, .slice aa la ca]) := HBA2.out.mod hm2 (fun h => by have := (HYD.out.2 ba h).2; have := HEB.out; omega)
  have HV3 : Hid (Wn x3 p2 Z (jOf 2 1 S0) 0 0 0) := (HV1.out.keep HMA.out).mod hm2 HZ1.out
  clear hob hgb hrb hR2 hm2 HV1 HBA2 HR1 hs1
  go_upto_region 12 with (refine wpList_store_row infoM rfl rfl _ _ rfl x3.heap.size #[.int .i64 (oldm (onR 2 1 4)).kind, .int .i64 (oldm (onR 2 1 4)).origin, .int .i64 (oldm (onR 2 1 4)).life, .int .i64 (oldm (onR 2 1 4)).id, .int .i64 (oldm (onR 2 1 4)).part, .int .i64 (oldm (onR 2 1 4)).parts, .int .i64 (oldm (onR 2 1 4)).groups, .bool (oldm (onR 2 1 4)).safe, .int .i64 (oldm (onR 2 1 4)).st, .int .i64 (oldm (onR 2 1 4)).rs, .int .i64 (oldm (onR 2 1 4)).rr, .int .i64 (oldm (onR 2 1 4)).sq, .slice ab lb cb] rfl rfl (Bk.new x3 _ _) rfl rfl rfl ?_; intro x4 hBB hmB)
  obtain ⟨bb, ebb⟩ : ∃ bb, bb = x3.heap.size := ⟨_, rfl⟩
  rw [← ebb] at hBB ⊢
  have HMB : Hid (Mod (fun _ => False) x3 x4) := ((Mod.refl (fun _ => False) x3).alloc _).trans hmB (V := fun _ => False) (fun _ _ h => h) (fun i hi e => by omega)
  have HN3 := Next_nil (HR2.out.keep HMB.out)
  unfold mvl m0 at HN3
  have HZB : Hid (¬ Z bb) := HZN.out bb (by have := HYD.out.1.size; have := HMA.out.size; have := HM2.out.size; omega)
  have HBB4 : Hid (Bk x4 bb 39 #[.int .i64 (oldm (onR 2 1 4)).kind, .int .i64 (oldm (onR 2 1 4)).origin, .int .i64 (oldm (onR 2 1 4)).life, .int .i64 (oldm (onR 2 1 4)).id, .int .i64 (oldm (onR 2 1 4)).part, .int .i64 (oldm (onR 2 1 4)).parts, .int .i64 (oldm (onR 2 1 4)).groups, .bool (oldm (onR 2 1 4)).safe, .int .i64 (oldm (onR 2 1 4)).st, .int .i64 (oldm (onR 2 1 4)).rs, .int .i64 (oldm (onR 2 1 4)).rr, .int .i64 (oldm (onR 2 1 4)).sq, .slice ab lb cb]) := hBB
  clear hBB hmB ebb
  go_wp2_with (fail)
  refine HN3.mono ?_
  rintro e x5 ⟨rfl, hm5⟩
  have HM5 : Hid (Mod (fun _ => False) x3 x5) := HMB.out.and hm5
  have HBB5 : Hid (Bk x5 bb 39 #[.int .i64 (oldm (onR 2 1 4)).kind, .int .i64 (oldm (onR 2 1 4)).origin, .int .i64 (oldm (onR 2 1 4)).life, .int .i64 (oldm (onR 2 1 4)).id, .int .i64 (oldm (onR 2 1 4)).part, .int .i64 (oldm (onR 2 1 4)).parts, .int .i64 (oldm (onR 2 1 4)).groups, .bool (oldm (onR 2 1 4)).safe, .int .i64 (oldm (onR 2 1 4)).st, .int .i64 (oldm (onR 2 1 4)).rs, .int .i64 (oldm (onR 2 1 4)).rr, .int .i64 (oldm (onR 2 1 4)).sq, .slice ab lb cb]) := HBB4.out.mod hm5 (fun h => h)
  clear HN3 hm5 HBB4 HR2
  go_upto_region 13 with (refine wpList_store_row infoM rfl rfl _ _ rfl x5.heap.size #[.int .i64 0, .int .i64 0, .int .i64 0, .int .i64 0, .int .i64 0, .int .i64 0, .int .i64 0, .bool false, .int .i64 0, .int .i64 0, .int .i64 0, .int .i64 0, .slice none 0 0] rfl rfl (Bk.new x5 _ _) rfl rfl rfl ?_; intro x6 hBC hmC)
  have HM6 : Hid (Mod (fun _ => False) x3 x6) := (HM5.out.alloc _).trans hmC (V := fun _ => False) (fun _ _ h => h) (fun i hi e => by have := HM5.out.size; omega)
  have HM56 : Hid (Mod (fun _ => False) x5 x6) := ((Mod.refl (fun _ => False) x5).alloc _).trans hmC (V := fun _ => False) (fun _ _ h => h) (fun i hi e => by omega)
  have HBA : Hid (Bk x6 ba 39 #[.int .i64 (oldm (onR 2 1 2)).kind, .int .i64 (oldm (onR 2 1 2)).origin, .int .i64 (oldm (onR 2 1 2)).life, .int .i64 (oldm (onR 2 1 2)).id, .int .i64 (oldm (onR 2 1 2)).part, .int .i64 (oldm (onR 2 1 2)).parts, .int .i64 (oldm (onR 2 1 2)).groups, .bool (oldm (onR 2 1 2)).safe, .int .i64 (oldm (onR 2 1 2)).st, .int .i64 (oldm (onR 2 1 2)).rs, .int .i64 (oldm (onR 2 1 2)).rr, .int .i64 (oldm (onR 2 1 2)).sq, .slice aa la ca]) := HBA3.out.mod HM6.out (fun h => h)
  have HBB : Hid (Bk x6 bb 39 #[.int .i64 (oldm (onR 2 1 4)).kind, .int .i64 (oldm (onR 2 1 4)).origin, .int .i64 (oldm (onR 2 1 4)).life, .int .i64 (oldm (onR 2 1 4)).id, .int .i64 (oldm (onR 2 1 4)).part, .int .i64 (oldm (onR 2 1 4)).parts, .int .i64 (oldm (onR 2 1 4)).groups, .bool (oldm (onR 2 1 4)).safe, .int .i64 (oldm (onR 2 1 4)).st, .int .i64 (oldm (onR 2 1 4)).rs, .int .i64 (oldm (onR 2 1 4)).rr, .int .i64 (oldm (onR 2 1 4)).sq, .slice ab lb cb]) := HBB5.out.mod HM56.out (fun h => h)
  have HV6 : Hid (Wn x6 p2 Z (jOf 2 1 S0) 0 0 0) := HV3.out.keep HM6.out
  have HO6 : Hid (Own x6 (.slice aa la ca) (oldm (onR 2 1 2)).body ∧ (∀ c ∈ (oldm (onR 2 1 2)).body, 0 ≤ c ∧ c ≤ 255)) := ⟨HOA3.out.mod HM6.out (fun _ _ h => h), HOA1.out.2.2⟩
  have HALL : Hid (Mod (fun _ => False) w x6 ∧ (∀ i, Z i → w.heap.size ≤ i)) := by
    obtain ⟨b1, b2, b3⟩ := HBr.out
    have hy := HYD.out
    have h1 := b1.trans hy.1 (V := fun i => w.heap.size ≤ i) (fun _ _ h => h) (fun i _ h => by have := (hy.2 i h).1; omega)
    have h2 := (h1.trans HMA.out (V := fun i => w.heap.size ≤ i) (fun _ _ h => h) (fun _ _ h => h.elim)).trans HM2.out (V := fun i => w.heap.size ≤ i) (fun _ _ h => h) (fun i _ h => by have := (hy.2 i h).1; omega)
    exact ⟨(h2.trans HM6.out (V := fun i => w.heap.size ≤ i) (fun _ _ h => h) (fun _ _ h => h.elim)).trans (Mod.refl (fun _ => False) x6) (V := fun _ => False) (fun i hi h => by omega) (fun _ _ h => h), b2⟩
  clear hBC hmC HM5 HM56 HBA3 HBB5 HV3 HOA3 HOA1 HMB HM6 HMA HM2 HBr HYD HZ1 HEB
  have HT1 : ∀ W, Mod (fun _ => False) x6 W → Calls Try.prog 13 #[.pointer (some ⟨p2, 0, none⟩), .agg #[.int .i64 2, .int .i64 1], .agg #[.int .i64 (oldm (onR 2 1 2)).kind, .int .i64 (oldm (onR 2 1 2)).origin, .int .i64 (oldm (onR 2 1 2)).life, .int .i64 (oldm (onR 2 1 2)).id, .int .i64 (oldm (onR 2 1 2)).part, .int .i64 (oldm (onR 2 1 2)).parts, .int .i64 (oldm (onR 2 1 2)).groups, .bool (oldm (onR 2 1 2)).safe, .int .i64 (oldm (onR 2 1 2)).st, .int .i64 (oldm (onR 2 1 2)).rs, .int .i64 (oldm (onR 2 1 2)).rr, .int .i64 (oldm (onR 2 1 2)).sq, .slice aa la ca]] W fun e w' => ∃ X' a', e = .returned (.tuple #[.bool true, .int .i64 0]) ∧ Wn w' p2 X' (jOf 2 1 (ins S0 2)) a' 2 1 ∧ Mod (fun i => w.heap.size ≤ i) x6 w' ∧ (∀ i, X' i → w.heap.size ≤ i) ∧ Mod Z W w' ∧ Gone W Z X' := fun W hW => by
    refine (Take_j (HV6.out.keep hW) is21 cr21 2 (by decide) 2 1 (.slice aa la ca) ((HO6.out.1.mod hW (fun _ _ h => h)).sl HO6.out.2) (by decide)).mono ?_
    rintro e w' ⟨X', a', rfl, h1, h2, h3⟩
    refine ⟨X', a', rfl, h1, hW.trans h2 (V := fun i => w.heap.size ≤ i) (fun _ _ h => h.elim) (fun i _ h => HALL.out.2 i h), fun i hi => ?_, h2, h3⟩
    rcases h3 i hi with h | h
    · exact HALL.out.2 i h
    · have := hW.size
      have := HALL.out.1.size
      omega
  have s0 : x6.cell? ⟨ba, 0, none⟩ = some (.int .i64 (oldm (onR 2 1 2)).kind) := HBA.out.cellv (j := 0) rfl
  have s1 : x6.cell? ⟨ba, 1, none⟩ = some (.int .i64 (oldm (onR 2 1 2)).origin) := HBA.out.cellv (j := 1) rfl
  have s2 : x6.cell? ⟨ba, 2, none⟩ = some (.int .i64 (oldm (onR 2 1 2)).life) := HBA.out.cellv (j := 2) rfl
  have s3 : x6.cell? ⟨ba, 3, none⟩ = some (.int .i64 (oldm (onR 2 1 2)).id) := HBA.out.cellv (j := 3) rfl
  have s4 : x6.cell? ⟨ba, 4, none⟩ = some (.int .i64 (oldm (onR 2 1 2)).part) := HBA.out.cellv (j := 4) rfl
  have s5 : x6.cell? ⟨ba, 5, none⟩ = some (.int .i64 (oldm (onR 2 1 2)).parts) := HBA.out.cellv (j := 5) rfl
  have s6 : x6.cell? ⟨ba, 6, none⟩ = some (.int .i64 (oldm (onR 2 1 2)).groups) := HBA.out.cellv (j := 6) rfl
  have s7 : x6.cell? ⟨ba, 7, none⟩ = some (.bool (oldm (onR 2 1 2)).safe) := HBA.out.cellv (j := 7) rfl
  have s8 : x6.cell? ⟨ba, 8, none⟩ = some (.int .i64 (oldm (onR 2 1 2)).st) := HBA.out.cellv (j := 8) rfl
  have s9 : x6.cell? ⟨ba, 9, none⟩ = some (.int .i64 (oldm (onR 2 1 2)).rs) := HBA.out.cellv (j := 9) rfl
  have s10 : x6.cell? ⟨ba, 10, none⟩ = some (.int .i64 (oldm (onR 2 1 2)).rr) := HBA.out.cellv (j := 10) rfl
  have s11 : x6.cell? ⟨ba, 11, none⟩ = some (.int .i64 (oldm (onR 2 1 2)).sq) := HBA.out.cellv (j := 11) rfl
  have s12 : x6.cell? ⟨ba, 12, none⟩ = some (.slice aa la ca) := HBA.out.cellv (j := 12) rfl
  go_region_held3 (fun u => u.cell? ⟨ba, 0, none⟩ = some (.int .i64 (oldm (onR 2 1 2)).kind) ∧ u.cell? ⟨ba, 1, none⟩ = some (.int .i64 (oldm (onR 2 1 2)).origin) ∧ u.cell? ⟨ba, 2, none⟩ = some (.int .i64 (oldm (onR 2 1 2)).life) ∧ u.cell? ⟨ba, 3, none⟩ = some (.int .i64 (oldm (onR 2 1 2)).id) ∧ u.cell? ⟨ba, 4, none⟩ = some (.int .i64 (oldm (onR 2 1 2)).part) ∧ u.cell? ⟨ba, 5, none⟩ = some (.int .i64 (oldm (onR 2 1 2)).parts) ∧ u.cell? ⟨ba, 6, none⟩ = some (.int .i64 (oldm (onR 2 1 2)).groups) ∧ u.cell? ⟨ba, 7, none⟩ = some (.bool (oldm (onR 2 1 2)).safe) ∧ u.cell? ⟨ba, 8, none⟩ = some (.int .i64 (oldm (onR 2 1 2)).st) ∧ u.cell? ⟨ba, 9, none⟩ = some (.int .i64 (oldm (onR 2 1 2)).rs) ∧ u.cell? ⟨ba, 10, none⟩ = some (.int .i64 (oldm (onR 2 1 2)).rr) ∧ u.cell? ⟨ba, 11, none⟩ = some (.int .i64 (oldm (onR 2 1 2)).sq) ∧ u.cell? ⟨ba, 12, none⟩ = some (.slice aa la ca)) (first | exact ⟨s0, s1, s2, s3, s4, s5, s6, s7, s8, s9, s10, s11, s12⟩ | go_keep) (first
    | (go_at_call 14; with_reducible refine (old_any _).mono ?_; rintro e x7 ⟨rfl, hm7⟩; have hB7 := (HBA.out.mod ((Mod.refl (fun _ => False) x6).drew) (fun h => h)).mod hm7 (fun h => h); have s0 := hB7.cellv (j := 0) rfl; have s1 := hB7.cellv (j := 1) rfl; have s2 := hB7.cellv (j := 2) rfl; have s3 := hB7.cellv (j := 3) rfl; have s4 := hB7.cellv (j := 4) rfl; have s5 := hB7.cellv (j := 5) rfl; have s6 := hB7.cellv (j := 6) rfl; have s7 := hB7.cellv (j := 7) rfl; have s8 := hB7.cellv (j := 8) rfl; have s9 := hB7.cellv (j := 9) rfl; have s10 := hB7.cellv (j := 10) rfl; have s11 := hB7.cellv (j := 11) rfl; have s12 := hB7.cellv (j := 12) rfl; clear hB7)
    | (go_at_call 13; with_reducible refine (HT1 _ (((Mod.refl (fun _ => False) x6).drew).and hm7)).mono ?_; rintro e x8 ⟨Z1, a8, rfl, hv8, hm8, hz8, hmz8, hgo8⟩; have hB8 := ((HBA.out.mod ((Mod.refl (fun _ => False) x6).drew) (fun h => h)).mod hm7 (fun h => h)).mod hmz8 HZA.out.1; have s0 := hB8.cellv (j := 0) rfl; have s1 := hB8.cellv (j := 1) rfl; have s2 := hB8.cellv (j := 2) rfl; have s3 := hB8.cellv (j := 3) rfl; have s4 := hB8.cellv (j := 4) rfl; have s5 := hB8.cellv (j := 5) rfl; have s6 := hB8.cellv (j := 6) rfl; have s7 := hB8.cellv (j := 7) rfl; have s8 := hB8.cellv (j := 8) rfl; have s9 := hB8.cellv (j := 9) rfl; have s10 := hB8.cellv (j := 10) rfl; have s11 := hB8.cellv (j := 11) rfl; have s12 := hB8.cellv (j := 12) rfl; clear hB8))
  have HD7 : Hid (Mod (fun _ => False) x6 x7) := ((Mod.refl (fun _ => False) x6).drew).and hm7
  have HBA8 : Hid (Bk x8 ba 39 #[.int .i64 (oldm (onR 2 1 2)).kind, .int .i64 (oldm (onR 2 1 2)).origin, .int .i64 (oldm (onR 2 1 2)).life, .int .i64 (oldm (onR 2 1 2)).id, .int .i64 (oldm (onR 2 1 2)).part, .int .i64 (oldm (onR 2 1 2)).parts, .int .i64 (oldm (onR 2 1 2)).groups, .bool (oldm (onR 2 1 2)).safe, .int .i64 (oldm (onR 2 1 2)).st, .int .i64 (oldm (onR 2 1 2)).rs, .int .i64 (oldm (onR 2 1 2)).rr, .int .i64 (oldm (onR 2 1 2)).sq, .slice aa la ca]) := (HBA.out.mod HD7.out (fun h => h)).mod hmz8 HZA.out.1
  have HBB8 : Hid (Bk x8 bb 39 #[.int .i64 (oldm (onR 2 1 4)).kind, .int .i64 (oldm (onR 2 1 4)).origin, .int .i64 (oldm (onR 2 1 4)).life, .int .i64 (oldm (onR 2 1 4)).id, .int .i64 (oldm (onR 2 1 4)).part, .int .i64 (oldm (onR 2 1 4)).parts, .int .i64 (oldm (onR 2 1 4)).groups, .bool (oldm (onR 2 1 4)).safe, .int .i64 (oldm (onR 2 1 4)).st, .int .i64 (oldm (onR 2 1 4)).rs, .int .i64 (oldm (onR 2 1 4)).rr, .int .i64 (oldm (onR 2 1 4)).sq, .slice ab lb cb]) := (HBB.out.mod HD7.out (fun h => h)).mod hmz8 HZB.out
  have HV8 : Hid (Wn x8 p2 Z1 (jOf 2 1 (ins S0 2)) a8 2 1) := hv8
  have HM8 : Hid (Mod (fun _ => False) w x8 ∧ (∀ i, Z1 i → w.heap.size ≤ i)) := ⟨(HALL.out.1.trans hm8 (V := fun i => w.heap.size ≤ i) (fun _ _ h => h.elim) (fun i _ h => h)).trans (Mod.refl (fun _ => False) x8) (V := fun _ => False) (fun i hi h => by omega) (fun _ _ h => h), hz8⟩
  have HO8 : Hid (Own x8 (.slice aa la ca) (oldm (onR 2 1 2)).body ∧ (∀ c ∈ (oldm (onR 2 1 2)).body, 0 ≤ c ∧ c ≤ 255)) := ⟨(HO6.out.1.mod HD7.out (fun _ _ h => h)).mod hmz8 HZA.out.2, HO6.out.2⟩
  have HG8 : Hid (∀ i, x6.heap.size ≤ i → i < x8.heap.size → ¬ Z i) := fun i h _ hi => by have := HV6.out.mem.lt i hi; omega
  have HZ1A : Hid (¬ Z1 ba ∧ ¬ Z1 bb) := by
    have h1 := HBA.out.lt
    have h2 := HBB.out.lt
    have hs := HD7.out.size
    refine ⟨fun h => ?_, fun h => ?_⟩
    · rcases hgo8 ba h with h | h
      · exact HZA.out.1 h
      · omega
    · rcases hgo8 bb h with h | h
      · exact HZB.out h
      · omega
  clear hm7 hm8 hz8 hmz8 hv8 hgo8 HV6 HO6 HT1 s0 s1 s2 s3 s4 s5 s6 s7 s8 s9 s10 s11 s12
  have HT2 : ∀ W, Mod (fun _ => False) x8 W → Calls Try.prog 13 #[.pointer (some ⟨p2, 0, none⟩), .agg #[.int .i64 2, .int .i64 1], .agg #[.int .i64 (oldm (onR 2 1 2)).kind, .int .i64 (oldm (onR 2 1 2)).origin, .int .i64 (oldm (onR 2 1 2)).life, .int .i64 (oldm (onR 2 1 2)).id, .int .i64 (oldm (onR 2 1 2)).part, .int .i64 (oldm (onR 2 1 2)).parts, .int .i64 (oldm (onR 2 1 2)).groups, .bool (oldm (onR 2 1 2)).safe, .int .i64 (oldm (onR 2 1 2)).st, .int .i64 (oldm (onR 2 1 2)).rs, .int .i64 (oldm (onR 2 1 2)).rr, .int .i64 (oldm (onR 2 1 2)).sq, .slice aa la ca]] W fun e w' => ∃ X' a', e = .returned (.tuple #[.bool false, .int .i64 0]) ∧ Wn w' p2 X' (jOf 2 1 (ins (ins S0 2) 2)) a' 2 2 ∧ Mod Z1 W w' := fun W hW => by
    refine (Take_j (HV8.out.keep hW) is21 cr21 2 (by decide) 2 1 (.slice aa la ca) ((HO8.out.1.mod hW (fun _ _ h => h)).sl HO8.out.2) (by decide)).mono ?_
    rintro e w' ⟨X', a', rfl, h1, h2, h3⟩
    exact ⟨X', a', rfl, h1, h2⟩
  go_upto_region 14 with (fail)
  have s0 : x8.cell? ⟨ba, 0, none⟩ = some (.int .i64 (oldm (onR 2 1 2)).kind) := HBA8.out.cellv (j := 0) rfl
  have s1 : x8.cell? ⟨ba, 1, none⟩ = some (.int .i64 (oldm (onR 2 1 2)).origin) := HBA8.out.cellv (j := 1) rfl
  have s2 : x8.cell? ⟨ba, 2, none⟩ = some (.int .i64 (oldm (onR 2 1 2)).life) := HBA8.out.cellv (j := 2) rfl
  have s3 : x8.cell? ⟨ba, 3, none⟩ = some (.int .i64 (oldm (onR 2 1 2)).id) := HBA8.out.cellv (j := 3) rfl
  have s4 : x8.cell? ⟨ba, 4, none⟩ = some (.int .i64 (oldm (onR 2 1 2)).part) := HBA8.out.cellv (j := 4) rfl
  have s5 : x8.cell? ⟨ba, 5, none⟩ = some (.int .i64 (oldm (onR 2 1 2)).parts) := HBA8.out.cellv (j := 5) rfl
  have s6 : x8.cell? ⟨ba, 6, none⟩ = some (.int .i64 (oldm (onR 2 1 2)).groups) := HBA8.out.cellv (j := 6) rfl
  have s7 : x8.cell? ⟨ba, 7, none⟩ = some (.bool (oldm (onR 2 1 2)).safe) := HBA8.out.cellv (j := 7) rfl
  have s8 : x8.cell? ⟨ba, 8, none⟩ = some (.int .i64 (oldm (onR 2 1 2)).st) := HBA8.out.cellv (j := 8) rfl
  have s9 : x8.cell? ⟨ba, 9, none⟩ = some (.int .i64 (oldm (onR 2 1 2)).rs) := HBA8.out.cellv (j := 9) rfl
  have s10 : x8.cell? ⟨ba, 10, none⟩ = some (.int .i64 (oldm (onR 2 1 2)).rr) := HBA8.out.cellv (j := 10) rfl
  have s11 : x8.cell? ⟨ba, 11, none⟩ = some (.int .i64 (oldm (onR 2 1 2)).sq) := HBA8.out.cellv (j := 11) rfl
  have s12 : x8.cell? ⟨ba, 12, none⟩ = some (.slice aa la ca) := HBA8.out.cellv (j := 12) rfl
  go_region_held3 (fun u => u.cell? ⟨ba, 0, none⟩ = some (.int .i64 (oldm (onR 2 1 2)).kind) ∧ u.cell? ⟨ba, 1, none⟩ = some (.int .i64 (oldm (onR 2 1 2)).origin) ∧ u.cell? ⟨ba, 2, none⟩ = some (.int .i64 (oldm (onR 2 1 2)).life) ∧ u.cell? ⟨ba, 3, none⟩ = some (.int .i64 (oldm (onR 2 1 2)).id) ∧ u.cell? ⟨ba, 4, none⟩ = some (.int .i64 (oldm (onR 2 1 2)).part) ∧ u.cell? ⟨ba, 5, none⟩ = some (.int .i64 (oldm (onR 2 1 2)).parts) ∧ u.cell? ⟨ba, 6, none⟩ = some (.int .i64 (oldm (onR 2 1 2)).groups) ∧ u.cell? ⟨ba, 7, none⟩ = some (.bool (oldm (onR 2 1 2)).safe) ∧ u.cell? ⟨ba, 8, none⟩ = some (.int .i64 (oldm (onR 2 1 2)).st) ∧ u.cell? ⟨ba, 9, none⟩ = some (.int .i64 (oldm (onR 2 1 2)).rs) ∧ u.cell? ⟨ba, 10, none⟩ = some (.int .i64 (oldm (onR 2 1 2)).rr) ∧ u.cell? ⟨ba, 11, none⟩ = some (.int .i64 (oldm (onR 2 1 2)).sq) ∧ u.cell? ⟨ba, 12, none⟩ = some (.slice aa la ca)) (first | exact ⟨s0, s1, s2, s3, s4, s5, s6, s7, s8, s9, s10, s11, s12⟩ | go_keep) (first
    | (go_at_call 14; with_reducible refine (old_any _).mono ?_; rintro e x9 ⟨rfl, hm9⟩; have hB7 := (HBA8.out.mod ((Mod.refl (fun _ => False) x8).drew) (fun h => h)).mod hm9 (fun h => h); have s0 := hB7.cellv (j := 0) rfl; have s1 := hB7.cellv (j := 1) rfl; have s2 := hB7.cellv (j := 2) rfl; have s3 := hB7.cellv (j := 3) rfl; have s4 := hB7.cellv (j := 4) rfl; have s5 := hB7.cellv (j := 5) rfl; have s6 := hB7.cellv (j := 6) rfl; have s7 := hB7.cellv (j := 7) rfl; have s8 := hB7.cellv (j := 8) rfl; have s9 := hB7.cellv (j := 9) rfl; have s10 := hB7.cellv (j := 10) rfl; have s11 := hB7.cellv (j := 11) rfl; have s12 := hB7.cellv (j := 12) rfl; clear hB7)
    | (go_at_call 13; with_reducible refine (HT2 _ (((Mod.refl (fun _ => False) x8).drew).and hm9)).mono ?_; rintro e xa ⟨Z2, aa2, rfl, hva, hmza⟩; have hB8 := ((HBA8.out.mod ((Mod.refl (fun _ => False) x8).drew) (fun h => h)).mod hm9 (fun h => h)).mod hmza HZ1A.out.1; have s0 := hB8.cellv (j := 0) rfl; have s1 := hB8.cellv (j := 1) rfl; have s2 := hB8.cellv (j := 2) rfl; have s3 := hB8.cellv (j := 3) rfl; have s4 := hB8.cellv (j := 4) rfl; have s5 := hB8.cellv (j := 5) rfl; have s6 := hB8.cellv (j := 6) rfl; have s7 := hB8.cellv (j := 7) rfl; have s8 := hB8.cellv (j := 8) rfl; have s9 := hB8.cellv (j := 9) rfl; have s10 := hB8.cellv (j := 10) rfl; have s11 := hB8.cellv (j := 11) rfl; have s12 := hB8.cellv (j := 12) rfl; clear hB8))
  have HD9 : Hid (Mod (fun _ => False) x8 x9) := ((Mod.refl (fun _ => False) x8).drew).and hm9
  have hBBa := (HBB8.out.mod HD9.out (fun h => h)).mod hmza HZ1A.out.2
  have k11 : xa.cell? ⟨ba, 11, none⟩ = some (.int .i64 2) := s11
  have j11 : xa.cell? ⟨bb, 11, none⟩ = some (.int .i64 4) := hBBa.cellv (j := 11) rfl
  have HHI := High_w hva
  have HMA : Hid (Mod (fun _ => False) w xa) := ((HM8.out.1.and HD9.out).trans hmza (V := fun i => w.heap.size ≤ i) (fun _ _ h => h.elim) (fun i _ h => HM8.out.2 i h)).trans (Mod.refl (fun _ => False) xa) (V := fun _ => False) (fun i hi h => by omega) (fun _ _ h => h)
  clear hm9 hva hmza s0 s1 s2 s3 s4 s5 s6 s7 s8 s9 s10 s11 s12 hBBa HT2
  go_wp2_with (go_at_call 18; refine HHI.mono ?_; rintro e w' ⟨rfl, rfl⟩)
  go_ret
  exact ⟨rfl, HMA.out⟩
end Go.Proofs.Ythiijonmnebjgaa
