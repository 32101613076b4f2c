/- Contracts of the document's Aru and Gaps. Conditions: as many data as a slice can have. -/
import Derived.Test.YtejlcoakencdiaaYt
namespace Go.Proofs.Ytejlcoakencdiaa
open Go.RowKit Go.Maps
set_option maxRecDepth 100000 in
set_option maxHeartbeats 4000000 in
theorem dAru {w : World} {p : Nat} {X : Nat → Prop} {L : List Dt} {top a h : Int} (hd : Dwn w p X L top) (hl : L.length ≤ 100000) (hp : Wp (jl L) a h) : Calls Try.prog 19 #[.pointer (some ⟨p, 0, none⟩)] w fun e w' => e = .returned (.int .i64 a) ∧ Mod (fun _ => False) w w' := by
  have HW : Hid (Dwn w p X L top) := hd
  obtain ⟨ha0, hall, hno⟩ := hp.aru
  have hah := hp.a_le
  have hhm := hp.high.2.1
  have HA : Hid (0 ≤ a ∧ a ≤ 9007199254740991) := ⟨by omega, by omega⟩
  have HALL : Hid (∀ k, 1 ≤ k → k ≤ a → (jl L k).isSome = true) := hall
  have HNO : Hid (jl L (a + 1) = none) := hno
  clear hd hp hah hhm ha0 hall hno
  go_enter Try.func19, Try.ntmps19
  go_wp2_with (fail)
  go_loopw [3] (fun i wr => ∃ (t : Nat), i = .int .i64 (t : Int) ∧ (t : Int) ≤ a ∧ Mod (fun _ => False) w wr) (fun i _ => a.toNat + 1 - (intOf i).toNat)
  case atStart => exact ⟨0, rfl, by have := HA.out; omega, Mod.refl _ _⟩
  case round =>
    obtain ⟨t, rfl, ht, hMr⟩ := hrel
    have htb : (t : Int) + 1 ≤ 9007199254740992 := by have := HA.out; omega
    have HG := dGet (HW.out.keep hMr) (by omega) ((t : Int) + 1)
    by_cases hta : (t : Int) + 1 ≤ a
    · have HJ : Hid ((jl L ((t : Int) + 1)).isSome = true) := HALL.out _ (by omega) hta
      go_wp2_with (fail)
      refine HG.mono ?_
      rintro e w2 ⟨v2, rfl, ho2, hm2, -⟩
      rw [HJ.out]
      obtain ⟨a2, k2, rfl⟩ := ho2.shape
      generalize (jl L ((t : Int) + 1)).getD d0 = dd at ho2 ⊢
      unfold dv
      have HM2 : Hid (Mod (fun _ => False) w w2) := hMr.and hm2
      clear ho2 hm2 HG
      go_wp2_with (refine wpList_store_row info18 rfl rfl _ _ rfl w2.heap.size #[.int .i64 dd.q, .int .i64 dd.r, .int .i64 dd.n, .int .i64 dd.s, .int .i64 dd.t, .int .i64 dd.m.kind, .int .i64 dd.m.origin, .int .i64 dd.m.life, .int .i64 dd.m.id, .int .i64 dd.m.part, .int .i64 dd.m.parts, .int .i64 dd.m.groups, .bool dd.m.safe, .int .i64 dd.m.st, .int .i64 dd.m.rs, .int .i64 dd.m.rr, .int .i64 dd.m.sq, .slice a2 dd.m.body.length k2] rfl rfl (Bk.new w2 _ _) rfl rfl rfl ?_; intro wF hBF hMF)
      have HMF : Hid (Mod (fun _ => False) w wF) := (HM2.out.alloc _).trans hMF (fun _ _ h => h) (fun i hi e => by have := HM2.out.size; omega)
      clear hBF hMF
      go_roundw
      case rel => exact ⟨t + 1, by go_num, by omega, HMF.out⟩
      case measure => simp [intOf]; omega
    · have HE : Hid ((t : Int) = a) := by show _ = _; omega
      have HJ : Hid ((jl L ((t : Int) + 1)).isSome = false) := by show _ = _; rw [HE.out, HNO.out]; rfl
      go_wp2_with (fail)
      refine HG.mono ?_
      rintro e w2 ⟨v2, rfl, ho2, hm2, -⟩
      rw [HJ.out]
      obtain ⟨a2, k2, rfl⟩ := ho2.shape
      generalize (jl L ((t : Int) + 1)).getD d0 = dd at ho2 ⊢
      unfold dv
      have HM2 : Hid (Mod (fun _ => False) w w2) := hMr.and hm2
      clear ho2 hm2 HG
      go_wp2_with (refine wpList_store_row info18 rfl rfl _ _ rfl w2.heap.size #[.int .i64 dd.q, .int .i64 dd.r, .int .i64 dd.n, .int .i64 dd.s, .int .i64 dd.t, .int .i64 dd.m.kind, .int .i64 dd.m.origin, .int .i64 dd.m.life, .int .i64 dd.m.id, .int .i64 dd.m.part, .int .i64 dd.m.parts, .int .i64 dd.m.groups, .bool dd.m.safe, .int .i64 dd.m.st, .int .i64 dd.m.rs, .int .i64 dd.m.rr, .int .i64 dd.m.sq, .slice a2 dd.m.body.length k2] rfl rfl (Bk.new w2 _ _) rfl rfl rfl ?_; intro wF hBF hMF)
      go_ret
      exact ⟨by rw [← HE.out]; rfl, (HM2.out.alloc _).trans hMF (fun _ _ h => h) (fun i hi e => by have := HM2.out.size; omega)⟩
set_option maxRecDepth 100000 in
set_option maxHeartbeats 4000000 in
theorem dGaps {w : World} {p : Nat} {X : Nat → Prop} {L : List Dt} {a h : Int} (hd : Dwn w p X L h) (hl : L.length ≤ 100000) (hp : Wp (jl L) a h) (m : Int) : Calls Try.prog 24 #[.pointer (some ⟨p, 0, none⟩), .int .i64 m] w fun e w' => ∃ v, e = .returned v ∧ Cr.Own w' v ((fil (jl L) h.toNat).take (min m 16).toNat) ∧ Mod (fun _ => False) w w' ∧ (∀ g, v.ownBlock = some g → w.heap.size ≤ g) := by
  have HW : Hid (Dwn w p X L h) := hd
  obtain ⟨hh0, hh1, _⟩ := hp.high
  have HB : Hid (0 ≤ h ∧ h ≤ 9007199254740991) := ⟨hh0, hh1⟩
  clear hd hp hh0 hh1
  obtain ⟨mm, emm⟩ : ∃ mm, mm = min m 16 := ⟨_, rfl⟩
  have HMM : Hid (mm = min m 16) := emm
  rw [← emm]
  clear emm
  go_enter Try.func24, Try.ntmps24
  go_wp2_with (fail)
  go_loopw [5, 6] (fun v s wr => ∃ t : Nat, s = .int .i64 ((t : Int) + 1) ∧ (t : Int) ≤ h ∧ Cr.Own wr v (fil (jl L) t) ∧ Hid ((fil (jl L) t).length ≤ mm.toNat) ∧ Mod (fun _ => False) w wr ∧ Hid (∀ g, v.ownBlock = some g → w.heap.size ≤ g)) (fun _ s _ => h.toNat + 1 - (intOf s).toNat)
  case atStart =>
    refine ⟨0, rfl, by have := HB.out; omega, Cr.Own.nil _, by show _ ≤ _; simp [fil], Mod.refl _ _, ?_⟩
    intro g hg; simp [Value.ownBlock] at hg
  case round =>
    obtain ⟨t, rfl, ht, hown, hlen, hMr, hnew⟩ := hrel
    obtain ⟨ao, cap, rfl⟩ := hown.shape
    have c1 : wr.cell? ⟨p, 1, none⟩ = some (.int .i64 h) := by
      obtain ⟨v, ds, k1, _⟩ := (HW.out.keep hMr).ex
      exact k1.cellv (j := 1) rfl
    by_cases hth : (t : Int) + 1 ≤ h
    · by_cases hl1 : ((fil (jl L) t).length : Int) < m
      · by_cases hl2 : ((fil (jl L) t).length : Int) < 16
        · have HG := dGet (HW.out.keep hMr) (by omega) ((t : Int) + 1)
          have hwr : IntKind.i64.wrap ((t : Int) + 1 + 1) = (t : Int) + 1 + 1 := by rw [IntKind.wrap_i64]; have := HB.out; omega
          have HL1 : Hid ((fil (jl L) t).length + 1 ≤ 1000000000000 ∧ ((fil (jl L) t).length : Int) < mm) := by
            have := HMM.out
            exact ⟨by omega, by omega⟩
          cases hj : (jl L ((t : Int) + 1)).isSome with
          | true =>
            have HF : Hid (fil (jl L) (t + 1) = fil (jl L) t) := by show _ = _; rw [fil, if_pos hj]
            have HJ : Hid ((jl L ((t : Int) + 1)).isSome = true) := hj
            clear hj
            generalize fil (jl L) t = L1 at *
            go_wp2_with (fail)
            refine HG.mono ?_
            rintro e w2 ⟨v2, rfl, ho2, hm2, -⟩
            rw [HJ.out]
            obtain ⟨a2, k2, rfl⟩ := ho2.shape
            generalize (jl L ((t : Int) + 1)).getD d0 = dd at ho2 ⊢
            unfold dv
            have HM2 : Hid (Mod (fun _ => False) w w2) := hMr.and hm2
            have HO2 : Hid (Cr.Own w2 (.slice ao L1.length cap) L1) := hown.mod hm2 (fun _ _ h => h)
            clear ho2 hm2 HG hown c1
            go_wp2_with (refine wpList_store_row info18 rfl rfl _ _ rfl w2.heap.size #[.int .i64 dd.q, .int .i64 dd.r, .int .i64 dd.n, .int .i64 dd.s, .int .i64 dd.t, .int .i64 dd.m.kind, .int .i64 dd.m.origin, .int .i64 dd.m.life, .int .i64 dd.m.id, .int .i64 dd.m.part, .int .i64 dd.m.parts, .int .i64 dd.m.groups, .bool dd.m.safe, .int .i64 dd.m.st, .int .i64 dd.m.rs, .int .i64 dd.m.rr, .int .i64 dd.m.sq, .slice a2 dd.m.body.length k2] rfl rfl (Bk.new w2 _ _) rfl rfl rfl ?_; intro wF hBF hMF)
            have HMF : Hid (Mod (fun _ => False) w wF) := (HM2.out.alloc _).trans hMF (fun _ _ h => h) (fun i hi e => by have := HM2.out.size; omega)
            have HOF : Hid (Cr.Own wF (.slice ao L1.length cap) L1) := (HO2.out.mod ((Mod.refl (fun _ => False) w2).alloc (.cells #[.int .i64 0, .int .i64 0, .int .i64 0, .int .i64 0, .int .i64 0, .int .i64 0, .int .i64 0, .int .i64 0, .int .i64 0, .int .i64 0, .int .i64 0, .int .i64 0, .bool false, .int .i64 0, .int .i64 0, .int .i64 0, .int .i64 0, .slice none 0 0] 35)) (fun _ _ h => h)).mod hMF (fun g hg e => by have := HO2.out.lt g hg; omega)
            clear hBF hMF
            go_roundw
            case rel => exact ⟨t + 1, by go_num, by omega, by rw [HF.out]; exact HOF.out, by rw [HF.out]; exact hlen, HMF.out, hnew⟩
            case measure => simp [intOf]; omega
          | false =>
            have HF : Hid (fil (jl L) (t + 1) = fil (jl L) t ++ [(t : Int) + 1]) := by show _ = _; rw [fil, if_neg (by simp [hj])]
            have HJ : Hid ((jl L ((t : Int) + 1)).isSome = false) := hj
            clear hj
            generalize fil (jl L) t = L1 at *
            go_wp2_with (fail)
            refine HG.mono ?_
            rintro e w2 ⟨v2, rfl, ho2, hm2, -⟩
            rw [HJ.out]
            obtain ⟨a2, k2, rfl⟩ := ho2.shape
            generalize (jl L ((t : Int) + 1)).getD d0 = dd at ho2 ⊢
            unfold dv
            have HM2 : Hid (Mod (fun _ => False) w w2) := hMr.and hm2
            have HO2 : Hid (Cr.Own w2 (.slice ao L1.length cap) L1) := hown.mod hm2 (fun _ _ h => h)
            clear ho2 hm2 HG hown c1
            go_wp2_with (first | (refine wpList_store_row info18 rfl rfl _ _ rfl w2.heap.size #[.int .i64 dd.q, .int .i64 dd.r, .int .i64 dd.n, .int .i64 dd.s, .int .i64 dd.t, .int .i64 dd.m.kind, .int .i64 dd.m.origin, .int .i64 dd.m.life, .int .i64 dd.m.id, .int .i64 dd.m.part, .int .i64 dd.m.parts, .int .i64 dd.m.groups, .bool dd.m.safe, .int .i64 dd.m.st, .int .i64 dd.m.rs, .int .i64 dd.m.rr, .int .i64 dd.m.sq, .slice a2 dd.m.body.length k2] rfl rfl (Bk.new w2 _ _) rfl rfl rfl ?_; intro wF hBF hMF; have HOF : Cr.Own wF (.slice ao L1.length cap) L1 := (HO2.out.mod ((Mod.refl (fun _ => False) w2).alloc (.cells #[.int .i64 0, .int .i64 0, .int .i64 0, .int .i64 0, .int .i64 0, .int .i64 0, .int .i64 0, .int .i64 0, .int .i64 0, .int .i64 0, .int .i64 0, .int .i64 0, .bool false, .int .i64 0, .int .i64 0, .int .i64 0, .int .i64 0, .slice none 0 0] 35)) (fun _ _ h => h)).mod hMF (fun g hg e => by have := HO2.out.lt g hg; omega)) | (at_builtin; refine wpList_app1 rfl _ _ rfl _ L1 ((t : Int) + 1) wF.heap.size rfl rfl (HOF.mod ((Mod.refl (fun _ => False) wF).alloc _) (fun _ _ h => h)) (Bk.new wF #[.int .i64 ((t : Int) + 1)] 3).cellz HL1.out.1 ?_; intro v4 w4 ho4 hm4 hf4))
            have hMF2 : Mod (fun _ => False) w wF := (HM2.out.alloc _).trans hMF (fun _ _ h => h) (fun i hi e => by have := HM2.out.size; omega)
            have HN4 : Hid (∀ g, v4.ownBlock = some g → w.heap.size ≤ g) := fun g hg => by
              rcases hf4 g hg with h1 | h1
              · exact hnew.out g h1
              · have := hMF2.size; simp at h1; omega
            have HM4 : Hid (Mod (fun _ => False) w w4) := (hMF2.alloc _).trans hm4 (fun _ _ h => h) (fun g hg e => by have := hnew.out g e; omega)
            have HLn : Hid ((L1 ++ [(t : Int) + 1]).length ≤ mm.toNat) := by show _ ≤ _; have := HL1.out.2; simp; omega
            clear hf4 hm4 hMF hBF hMF2
            go_roundw
            case rel => exact ⟨t + 1, by go_num, by omega, by rw [HF.out]; exact ho4, by rw [HF.out]; exact HLn, HM4.out, HN4⟩
            case measure => simp [intOf]; omega
        · have HE : Hid ((fil (jl L) h.toNat).take mm.toNat = fil (jl L) t) := fil_take (by omega) (by have := hlen.out; have := HMM.out; omega)
          generalize fil (jl L) t = L1 at *
          go_wp2_with (fail)
          go_ret
          exact ⟨_, rfl, by rw [HE.out]; exact hown, hMr, hnew.out⟩
      · have HE : Hid ((fil (jl L) h.toNat).take mm.toNat = fil (jl L) t) := fil_take (by omega) (by have := hlen.out; have := HMM.out; omega)
        generalize fil (jl L) t = L1 at *
        go_wp2_with (fail)
        go_ret
        exact ⟨_, rfl, by rw [HE.out]; exact hown, hMr, hnew.out⟩
    · have HE : Hid ((fil (jl L) h.toNat).take mm.toNat = fil (jl L) t) := by
        show _ = _
        rw [show h.toNat = t by omega]
        exact List.take_of_length_le hlen.out
      generalize fil (jl L) t = L1 at *
      go_wp2_with (fail)
      go_ret
      exact ⟨_, rfl, by rw [HE.out]; exact hown, hMr, hnew.out⟩
end Go.Proofs.Ytejlcoakencdiaa
