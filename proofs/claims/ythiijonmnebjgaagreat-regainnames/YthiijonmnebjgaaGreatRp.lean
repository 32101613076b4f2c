/- Contract of the document's Places. Conditions: sizes that a slice of bytes has. -/
import Derived.Test.YthiijonmnebjgaaGreatRd
import Derived.Test.YthiijonmnebjgaaGreatRq
import Derived.Test.YthiijonmnebjgaaGreatWi
import Derived.Test.YthiijonmnebjgaaGreatRb
import Derived.Test.YthiijonmnebjgaaGreatCr
import Derived.Maps.AppendAt
namespace Go.Proofs.YthiijonmnebjgaaGreat
open Go.RowKit
/-- The numbers that are read, the rest zero. -/
def a4 (k : Nat) (L : List Int) : Array Value := (((rdv k L) ++ List.replicate (4 - k) 0).map (Value.int .i64)).toArray
theorem a4_zero (L : List Int) : a4 0 L = #[.int .i64 0, .int .i64 0, .int .i64 0, .int .i64 0] := rfl
theorem a4_set {k : Nat} {L : List Int} (hk : k < 4) (h : rde k L = 0) (hx : (num 0 0 (rdr k L)).2.2 = 0) : (a4 k L).setIfInBounds k (.int .i64 (num 0 0 (rdr k L)).1) = a4 (k + 1) L := by
  obtain ⟨_, h2, _⟩ := rd_ok h hx
  have hl := rdv_len k L h
  unfold a4
  rw [h2, show 4 - k = (4 - (k + 1)) + 1 by omega, List.replicate_succ]
  simp only [List.map_append, List.map_cons, List.setIfInBounds_toArray, List.append_assoc, List.cons_append, List.nil_append]
  rw [List.set_append_right _ _ (by simp [hl]), List.length_map, hl, Nat.sub_self]
  rfl
theorem a4_size (k : Nat) (L : List Int) (hk : k ≤ 4) (h : rde k L = 0) : (a4 k L).size = 4 := by
  have hl := rdv_len k L h
  simp [a4, hl]; omega
theorem a4_get {L : List Int} (h : rde 4 L = 0) (j : Nat) (hj : j < 4) : (a4 4 L)[j]? = some (.int .i64 ((rdv 4 L).getD j 0)) := by
  have hl := rdv_len 4 L h
  simp [a4, hl, hj]
/-- A slice of places that was made here. -/
def OwnP (w : World) (v : Value) (l : List Pl) : Prop := w.ownsRow 0 147 4 v l.length ((flat l).map (Value.int .i64))
theorem OwnP.nil (w : World) : OwnP w (.slice none 0 0) [] := World.ownsRow_nil _ _ _ _
theorem OwnP.mod {S : Nat → Prop} {w w' : World} {v : Value} {l : List Pl} (h : OwnP w v l) (hm : Mod S w w') (hv : ∀ g, v.ownBlock = some g → ¬ S g) : OwnP w' v l := by
  obtain ⟨h1, h2⟩ := h
  refine ⟨h1, ?_⟩
  rcases h2 with h2 | ⟨g, cap, cur, rfl, hb, hg, r⟩
  · exact Or.inl h2
  · exact Or.inr ⟨g, cap, cur, rfl, hb, hm.obj hg (hv g rfl), r⟩
theorem OwnP.lt {w : World} {v : Value} {l : List Pl} (h : OwnP w v l) : ∀ g, v.ownBlock = some g → g < w.heap.size := fun g hg => (World.ownsRow.lt h g hg).2
theorem OwnP.shape {w : World} {v : Value} {l : List Pl} (h : OwnP w v l) : ∃ ao cap, v = .slice ao l.length cap := by
  rcases h.2 with ⟨rfl, h0⟩ | ⟨g, cap, cur, rfl, _⟩
  · exact ⟨none, 0, by rw [h0]⟩
  · exact ⟨_, cap, rfl⟩
theorem flat_some' {l : List Pl} {k : Nat} (hk : k < (flat l).length) : ((flat l).map (Value.int .i64))[k]? = some (.int .i64 ((flat l).getD k 0)) := by
  simp [hk]
theorem OwnP.slp {w : World} {v : Value} {l : List Pl} (h : OwnP w v l) (hr : ∀ p ∈ l, I64 p.ring ∧ I64 p.mb) : SlP w v l := by
  refine ⟨?_, hr⟩
  have hl := flat_len l
  rcases h.2 with ⟨rfl, h0⟩ | ⟨g, cap, cur, rfl, hb, hg, hn, hcm, hcs, ht⟩
  · exact ⟨none, 0, by rw [h0], by omega, by simp [maxLen], fun _ => rfl, fun hne => absurd (List.eq_nil_of_length_eq_zero h0) hne⟩
  · refine ⟨some ⟨g, 0, none⟩, cap, rfl, hn, hcm, (by intro h; cases h), fun _ => ⟨g, 0, rfl, fun j p hp => ?_⟩⟩
    have hj : j < l.length := (List.getElem?_eq_some_iff.1 hp).1
    obtain ⟨e0, e1, e2, e3⟩ := flat_get l j p hp
    rw [Nat.zero_add]
    refine ⟨?_, ?_, ?_, ?_⟩
    · rw [World.ownsRow.cellAt h (j * 4) (by omega), flat_some' (by omega), e0]
    · rw [World.ownsRow.cellAt h (j * 4 + 1) (by omega), flat_some' (by omega), e1]
    · rw [World.ownsRow.cellAt h (j * 4 + 2) (by omega), flat_some' (by omega), e2]
    · rw [World.ownsRow.cellAt h (j * 4 + 3) (by omega), flat_some' (by omega), e3]
theorem info4 : (Tryz.prog.info? 147).map (fun i => (i.zero, i.size, i.bytes)) = some (some (.agg #[.int .i64 0, .int .i64 0, .int .i64 0, .int .i64 0]), 4, 32) := infoPlace
theorem one4 (w : World) (a b c d : Int) : ∀ j u, [Value.int .i64 a, .int .i64 b, .int .i64 c, .int .i64 d][j]? = some u → (w.alloc (.cells #[.int .i64 a, .int .i64 b, .int .i64 c, .int .i64 d] 147)).cell? ((⟨w.heap.size, 0, none⟩ : Addr).add j) = some u := by
  intro j u hj
  have hb := Bk.new w #[.int .i64 a, .int .i64 b, .int .i64 c, .int .i64 d] 147
  rw [add_at, Nat.zero_add, hb.cell j]
  simpa using hj
theorem pl_one {L : List Int} {x z : Int} (hN : num 0 0 L = (x, z, 0)) : rde 1 L = 0 ∧ plN L = x ∧ rdr 1 L = L.drop z.toNat := by
  simp [rde, plN, rdv, rdr, hN]
theorem pl_err {L : List Int} {x z er : Int} (hN : num 0 0 L = (x, z, er)) (h : er ≠ 0) : plE L = er := by
  have : rde 1 L = er := by simp [rde, hN, h]
  rw [plE, if_pos (by rw [this]; exact h), this]
set_option maxRecDepth 100000 in
set_option maxHeartbeats 4000000 in
theorem dPlaces (v : Value) (L : List Int) (w : World) (hs : Sl w v L) (hb : L.length ≤ 140737488355328) :
    Calls Tryz.prog 96 #[v] w fun e w' => ∃ v1, e = .returned (.tuple #[v1, .int .i64 (plE L)]) ∧ Mod (fun _ => False) w w' ∧
      (plE L ≠ 0 → v1 = .slice none 0 0) ∧ (plE L = 0 → SlP w' v1 (plL L) ∧ (∀ g, v1.ownBlock = some g → w.heap.size ≤ g)) := by
  have HN := rNew v L w hs hb
  obtain ⟨i0, hi, hz0, hz1, hz2⟩ := info_parts info4
  obtain ⟨E, hE0⟩ : ∃ E, plE L = E := ⟨_, rfl⟩
  rw [hE0]
  have HE : Hid (plE L = E) := hE0
  clear hE0
  go_enter Tryz.func96, Tryz.ntmps96
  go_wp2_with (fail)
  refine HN.mono ?_
  rintro e w1 ⟨p, rfl, v1, hr1, hm1, hp1, hv1⟩
  have HG := rGet p v1 L w1 hr1
  have hnv := num_val L 0 0
  have hvl : L ≠ [] → ∀ g, v1.ownBlock = some g → g < w1.heap.size := fun hl => hr1.sl.lt hl
  have hpl := lt_of_block hr1.blk
  obtain ⟨x, z, er, hN⟩ : ∃ x z er, num 0 0 L = (x, z, er) := ⟨_, _, _, rfl⟩
  rw [hN] at HG hnv
  simp only at HG hnv
  go_wp2_with (fail)
  refine HG.mono ?_
  rintro e w2 ⟨rfl, v2, hr2, hm2, hf2⟩
  have hM2 : Mod (fun _ => False) w w2 := hm1.trans hm2 (V := fun _ => False) (fun _ _ h => h) (fun _ hi h => by omega)
  have hs2 := hm2.size
  clear HG hm1 hm2 hr1 HN hs
  by_cases hx : er = 0
  case neg =>
    obtain rfl : E = er := by rw [← HE.out]; exact pl_err hN hx
    have hxb : (E != 0) = true := by simp [hx]
    clear hN hnv
    go_wp2
    go_ret2
    exact ⟨_, rfl, hM2, fun _ => rfl, fun h => absurd h hx⟩
  case pos =>
  subst hx
  obtain ⟨n1, n2, n3⟩ := pl_one hN
  rw [← n3] at hr2
  have hx0 : 0 ≤ x ∧ x ≤ 9007199254740991 := by omega
  clear hN hnv n3
  by_cases hx4 : 4 < x
  · obtain rfl : E = 5 := by rw [← HE.out, plE, if_neg (by simp [n1]), if_pos (by rw [n2]; exact hx4)]
    go_wp2
    go_ret2
    exact ⟨_, rfl, hM2, fun _ => rfl, fun h => absurd h (by decide)⟩
  · obtain ⟨n, rfl⟩ := Int.eq_ofNat_of_zero_le hx0.1
    have hn4 : n ≤ 4 := by omega
    obtain ⟨L1, hL1⟩ : ∃ L1, rdr 1 L = L1 := ⟨_, rfl⟩
    have HE2 : Hid (E = if rpe n L1 ≠ 0 then rpe n L1 else if ¬ (rpr n L1 = [] ∧ held 0 (rpv n L1) = true) then 4 else 0) := by
      show E = _
      rw [← HE.out, plE, if_neg (by simp [n1]), if_neg (by rw [n2]; exact hx4), plL, n2, hL1, Int.toNat_natCast]
    have HPL : Hid (plL L = rpv n L1) := by show plL L = _; rw [plL, n2, hL1, Int.toNat_natCast]
    have hLn : L1 ≠ [] → L ≠ [] := fun h e => h (by rw [← hL1, e]; rfl)
    rw [hL1] at hr2
    clear HE n1 n2 hL1 hx0 hx4
    have hM2' : Hid (w.heap.size ≤ w2.heap.size) := hM2.size
    have HF2 : Hid (∀ g, v2.ownBlock = some g → v1.ownBlock = some g) := hf2
    have HVL : Hid (L ≠ [] → ∀ g, v1.ownBlock = some g → g < w1.heap.size) := hvl
    clear hf2 hvl
    go_wp2
    go_loopw [7, 8] (fun vo i wr => ∃ (j : Nat) (v' : Value) (L' : List Int) (done : List Pl), i = .int .i64 j ∧ j ≤ n ∧ Hid (done.length = j) ∧ Hid (rpv n L1 = done ++ rpv (n - j) L') ∧ Hid (rpe n L1 = rpe (n - j) L') ∧ Hid (rpr n L1 = rpr (n - j) L') ∧ Hid (L' ≠ [] → L ≠ []) ∧ Hid (Rf wr p v' L') ∧ Hid (OwnP wr vo done) ∧ Hid (Mod (fun _ => False) w wr) ∧ w2.heap.size ≤ wr.heap.size ∧ Hid (∀ g, vo.ownBlock = some g → w2.heap.size ≤ g) ∧ Hid (∀ g, v'.ownBlock = some g → v1.ownBlock = some g)) (fun _ i _ => n - (intOf i).toNat)
    case atStart => exact ⟨0, v2, L1, [], rfl, by omega, rfl, rfl, rfl, rfl, hLn, hr2, OwnP.nil _, hM2, Nat.le_refl _, by show ∀ g, _; intro g hg; simp [Value.ownBlock] at hg, HF2⟩
    case round =>
      obtain ⟨j, v', L', done, rfl, hj, hd, e1, e2, e3, hLn', hr, ho, hm, hsz, hvo, hv'⟩ := hrel
      clear hr2 hM2 HF2 hLn
      by_cases hlt : j < n
      · obtain ⟨m, hmm⟩ : ∃ m, n - j = m + 1 := ⟨n - j - 1, by omega⟩
        have HM : Hid (n - (j + 1) = m) := by show _ = _; omega
        have E1 := e1.out
        have E2 := e2.out
        have E3 := e3.out
        rw [hmm] at E1 E2 E3
        rw [rpv_succ] at E1
        rw [rpe_succ] at E2
        rw [rpr_succ] at E3
        clear e1 e2 e3 hmm
        have H1 : Hid (rpv n L1 = _) := E1
        have H2 : Hid (rpe n L1 = _) := E2
        have H3 : Hid (rpr n L1 = _) := E3
        clear E1 E2 E3
        have hlr : p < wr.heap.size := lt_of_block hr.out.blk
        have hD := (Mod.refl (fun _ => False) wr).alloc (.cells (a4 0 L') 145)
        have hB := Bk.new wr (a4 0 L') 145
        have HR4 : Hid (Rf _ _ _ (rdr 0 L')) := hr.out.mod2 hD (fun h => h) (fun _ _ _ h => h)
        have HO4 : Hid (OwnP _ _ _) := ho.out.mod hD (fun _ _ h => h)
        have HM4 : Hid (Mod _ _ _) := hm.out.trans hD (V := fun _ => False) (fun _ _ h => h) (fun _ _ h => h)
        have HB4 : Hid (Bk _ _ _ _) := hB
        have e4 := a4_zero L'
        rw [e4] at HR4 HO4 HM4 HB4
        have hol := ho.out.lt
        have HOL : Hid (∀ g, u7.ownBlock = some g → w2.heap.size ≤ g ∧ g < wr.heap.size) := fun g hg => ⟨hvo.out g hg, hol g hg⟩
        clear hD hB e4 hr ho hm hol hvo
        go_wp2
        generalize hg4 : wr.heap.size = g4 at *
        go_loopw [10] (fun i wi => ∃ (k : Nat) (v'' : Value), i = .int .i64 k ∧ k ≤ 4 ∧ Hid (rde k L' = 0) ∧ Hid (Rf wi p v'' (rdr k L')) ∧ Hid (Bk wi g4 145 (a4 k L')) ∧ Hid (OwnP wi u7 done) ∧ Hid (Mod (fun _ => False) w wi) ∧ g4 < wi.heap.size ∧ Hid (∀ g, v''.ownBlock = some g → v1.ownBlock = some g)) (fun i _ => 4 - (intOf i).toNat)
        case atStart => exact ⟨0, v', rfl, by omega, rfl, HR4, by show Bk _ _ _ _; rw [a4_zero]; exact HB4.out, HO4, HM4, by simp; omega, hv'⟩
        case round =>
          obtain ⟨k, v'', rfl, hk, hrde, hr, hB, ho, hm, hsz2, hv''⟩ := hrel
          clear HR4 HO4 HM4 HB4 hv' hg4
          have hsb : ∀ g, rdr k L' ≠ [] → v''.ownBlock = some g → g < w1.heap.size := fun g hl hg => HVL.out (hLn'.out (by rintro rfl; exact hl (List.eq_nil_iff_forall_not_mem.2 fun c hc => by have := rdr_mem k [] c hc; simp at this))) g (hv''.out g hg)
          by_cases hk4 : k < 4
          · have HG := rGet p v'' (rdr k L') wr hr.out
            have hnv := num_val (rdr k L') 0 0
            have hOK := fun h => rd_ok hrde.out h
            have hAS := fun h => a4_set hk4 hrde.out h
            have hBAD := fun h => rd_bad hrde.out h (3 - k)
            rw [show k + 1 + (3 - k) = 4 by omega] at hBAD
            obtain ⟨x, z, er, hN⟩ : ∃ x z er, num 0 0 (rdr k L') = (x, z, er) := ⟨_, _, _, rfl⟩
            rw [hN] at HG hnv hOK hAS hBAD
            simp only at HG hnv hOK hAS hBAD
            have hki : (k : Int) < 4 := by omega
            have hsz4 := a4_size k L' hk hrde.out
            go_wp2_with (fail)
            refine HG.mono ?_
            rintro e w3 ⟨rfl, v3, hr3, hm3, hf3⟩
            have hB3 := hB.out.mod hm3 (by intro e; omega)
            have ho3 := ho.out.mod hm3 (fun g hg e => by have := HOL.out g hg; omega)
            have hM3 : Mod (fun _ => False) w w3 := hm.out.trans hm3 (fun _ _ h => h) (fun _ hi e => by omega)
            have hs3 := hm3.size
            have HV3 : Hid (∀ g, v3.ownBlock = some g → v1.ownBlock = some g) := fun g hg => hv''.out g (hf3 g hg)
            by_cases hx : er = 0
            · subst hx
              obtain ⟨o1, o2, o3⟩ := hOK rfl
              have hA3 := hAS rfl
              have hfz := hB3.frz k
              obtain ⟨u, hce⟩ : ∃ u, w3.cell? ⟨g4, k, none⟩ = some u := ⟨_, hB3.cellv (Array.getElem?_eq_getElem (by rw [hsz4]; exact hk4))⟩
              have HR3 : Hid (Rf _ _ _ _) := hr3.mod2 ((Mod.refl (fun b => b = g4) w3).setCell ⟨g4, k, none⟩ (.int .i64 x) (.inl rfl)) (by omega) (fun hl g hg e => by
                have := hsb g (by intro e0; rw [e0] at hl; simp at hl) (hf3 g hg)
                omega)
              have HB3 : Hid (Bk _ _ _ _) := hB3.set k (.int .i64 x)
              have HO3 : Hid (OwnP _ _ _) := ho3.mod ((Mod.refl (fun b => b = g4) w3).setCell ⟨g4, k, none⟩ (.int .i64 x) (.inl rfl)) (fun g hg e => by have := HOL.out g hg; omega)
              have HM3 : Hid (Mod _ _ _) := hM3.setCell ⟨g4, k, none⟩ (.int .i64 x) (.inr (by have := hM3.size; show _ ≤ g4; omega))
              clear hr3 hB3 ho3 hM3 hm3 hr hB ho hm HG hnv hOK hAS hBAD hf3 hsb
              go_wp2
              go_roundw
              case rel => exact ⟨k + 1, v3, by go_num, by omega, o1, by show Rf _ _ _ _; rw [o3]; exact HR3.out, by show Bk _ _ _ _; rw [← hA3]; exact HB3.out, HO3, HM3, by simp only [World.setCell, Array.size_modify]; omega, HV3⟩
              case measure => simp [intOf]; omega
            · have hE := hBAD hx
              have hxb : (er != 0) = true := by simp [hx]
              obtain rfl : E = er := by
                have h0 : rpe n L1 = er := by rw [H2.out, if_neg (by rw [hE]; exact hx), hE]
                rw [HE2.out, if_pos (by rw [h0]; exact hx), h0]
              clear hr3 hB3 ho3 hm3 hr hB ho hm HG hnv hOK hAS hBAD hf3 hsb hE hN
              go_wp2
              go_ret2
              exact ⟨_, rfl, hM3, fun _ => rfl, fun h => absurd h hx⟩
          · obtain rfl : k = 4 := by omega
            have c0 := hB.out.cellv (a4_get hrde.out 0 (by omega))
            have c1 := hB.out.cellv (a4_get hrde.out 1 (by omega))
            have c2 := hB.out.cellv (a4_get hrde.out 2 (by omega))
            have c3 := hB.out.cellv (a4_get hrde.out 3 (by omega))
            have HP4 : Hid (plc (rdv 4 L') = ⟨(rdv 4 L').getD 0 0, (rdv 4 L').getD 1 0, (rdv 4 L').getD 2 0, (rdv 4 L').getD 3 0⟩) := rfl
            generalize (rdv 4 L').getD 0 0 = x0 at c0 HP4
            generalize (rdv 4 L').getD 1 0 = x1 at c1 HP4
            generalize (rdv 4 L').getD 2 0 = x2 at c2 HP4
            generalize (rdv 4 L').getD 3 0 = x3 at c3 HP4
            have hD := (Mod.refl (fun _ => False) wr).alloc (.cells #[.int .i64 x0, .int .i64 x1, .int .i64 x2, .int .i64 x3] 147)
            have ho3 := ho.out.mod hD (fun _ _ h => h)
            have hr3 := hr.out.mod2 hD (fun h => h) (fun _ _ _ h => h)
            have hm3 := hm.out.trans hD (V := fun _ => False) (fun _ _ h => h) (fun _ _ h => h)
            have hon := one4 wr x0 x1 x2 x3
            have hdl : Hid (done.length ≤ 4) := by show _ ≤ _; rw [hd.out]; omega
            clear hB ho hr hm
            go_wp2_with (at_builtin; refine wpList_append_own_at _ rfl _ _ 119 rfl 0 147 i0 (.agg #[.int .i64 0, .int .i64 0, .int .i64 0, .int .i64 0]) 4 32 Tryz.underlying119 hi hz0 hz1 hz2 rfl (by decide) u7 done.length ((flat done).map (Value.int .i64)) rfl ho3 ⟨wr.heap.size, 0, none⟩ 1 1 [.int .i64 x0, .int .i64 x1, .int .i64 x2, .int .i64 x3] rfl rfl hon (by intro u hu; simp at hu; rcases hu with rfl | rfl | rfl | rfl <;> rfl) (by have := hdl.out; simp only [maxLen]; omega) (by have := hdl.out; omega) (Nat.zero_le _) ?_; intro v5 w5 hown5 hgrow hnil hat)
            have ho5 : OwnP w5 v5 (done ++ [plc (rdv 4 L')]) := by
              rw [HP4.out]
              unfold OwnP
              rw [flat_app, List.map_append, List.length_append]
              exact hown5
            have hmg : Mod (fun q => u7.ownBlock = some q) _ w5 := (Mod.refl (fun q => u7.ownBlock = some q) _).grown hgrow (fun q hq _ => hq)
            have hr5 := hr3.mod2 hmg (fun e => by have := HOL.out p e; omega) (fun hl g hg e => by have := HOL.out g e; have := hsb g hl hg; omega)
            have hm5 := hm3.trans hmg (V := fun _ => False) (fun _ _ h => h) (fun q hq e => by have := HOL.out q e; have := hM2'.out; omega)
            have hs5 := hmg.size
            have hvo5 : ∀ g, v5.ownBlock = some g → w2.heap.size ≤ g := fun g hg => by
              rcases hat with h | h
              · rw [h] at hg; exact (HOL.out g hg).1
              · rw [h] at hg; simp at hg; omega
            have HR5 : Hid (Rf _ _ _ _) := hr5
            have HO5 : Hid (OwnP _ _ _) := ho5
            have HM5 : Hid (Mod _ _ _) := hm5
            have HS5 : w2.heap.size ≤ w5.heap.size := by simp at hs5; omega
            have HV5 : Hid (∀ g, v5.ownBlock = some g → w2.heap.size ≤ g) := hvo5
            clear hr5 ho5 hm5 hs5 hvo5 hown5 hgrow hnil hat hmg c0 c1 c2 c3 hon ho3 hr3 hm3 hD
            have G1 := H1.out
            have G2 := H2.out
            have G3 := H3.out
            rw [if_pos hrde.out] at G1 G2 G3
            have g1 : Hid (rpv n L1 = (done ++ [plc (rdv 4 L')]) ++ rpv m (rdr 4 L')) := by show _ = _; rw [G1]; simp
            have g2 : Hid (rpe n L1 = rpe m (rdr 4 L')) := G2
            have g3 : Hid (rpr n L1 = rpr m (rdr 4 L')) := G3
            clear G1 G2 G3 H1 H2 H3
            go_wp2
            go_roundw
            case rel => exact ⟨j + 1, v'', rdr 4 L', done ++ [plc (rdv 4 L')], by go_num, by omega, by show _ = _; simp [hd.out], by show _ = _; rw [HM.out]; exact g1.out, by show _ = _; rw [HM.out]; exact g2.out, by show _ = _; rw [HM.out]; exact g3.out, fun h => hLn'.out (by rintro rfl; exact h (List.eq_nil_iff_forall_not_mem.2 fun c hc => by have := rdr_mem 4 [] c hc; simp at this)), HR5, HO5, HM5, HS5, HV5, hv''⟩
            case measure => simp [intOf]; omega
      · obtain rfl : j = n := by omega
        have G1 := e1.out
        have G2 := e2.out
        have G3 := e3.out
        rw [Nat.sub_self] at G1 G2 G3
        simp only [rpv, rpe, rpr, List.append_nil] at G1 G2 G3
        have HE3 := HE2.out
        rw [G1, G2, G3] at HE3
        rw [if_neg (by simp)] at HE3
        have hrg : ∀ q ∈ done, I64 q.ring ∧ I64 q.mb := by rw [← G1]; exact rpv_rng _ _
        have hSP := ho.out.slp hrg
        have hPLd : plL L = done := by rw [HPL.out, G1]
        have HC := dCharts u7 done wr hSP
        have hch : chE done = if held 0 done = true then 0 else 2 := by
          unfold chE
          rw [if_neg (by rw [hd.out]; omega)]
        have HPD : Hid (plL L = done) := hPLd
        have hLl : L'.length = 0 ↔ L' = [] := List.length_eq_zero_iff
        clear e1 e2 e3 G1 G2 G3 HE2 HPL hPLd hrg hd
        cases hh : held 0 done with
        | false =>
          rw [hh] at hch HE3
          obtain rfl : E = 4 := by rw [HE3]; simp
          rw [hch] at HC
          clear hch HE3 hh
          go_wp2_with (fail)
          refine HC.mono ?_
          rintro e w6 ⟨v6, rfl, hm6, _, _⟩
          go_wp2
          go_ret2
          exact ⟨_, rfl, hm.out.trans hm6 (V := fun _ => False) (fun _ _ h => h) (fun _ _ h => h), fun _ => rfl, fun h => absurd h (by decide)⟩
        | true =>
          rw [hh] at hch HE3
          rw [hch] at HC
          clear hch hh
          go_wp2_with (fail)
          refine HC.mono ?_
          rintro e w6 ⟨v6, rfl, hm6, _, _⟩
          have hr6 := hr.out.mod2 hm6 (fun h => h) (fun _ _ _ h => h)
          have ho6 := hSP.mod hm6 (fun _ _ _ h => h)
          have hm7 := hm.out.trans hm6 (V := fun _ => False) (fun _ _ h => h) (fun _ _ h => h)
          have hsw := hM2'.out
          clear hr hm HC hm6 hSP ho
          go_wp2_with (fail)
          refine (rLeft p v' L' w6 hr6).mono ?_
          rintro e w8 ⟨rfl, rfl⟩
          clear hr6
          by_cases hl : L' = []
          · subst hl
            have HE0 : Hid (E = 0) := by show _ = _; simpa using HE3
            clear HE3
            go_wp2
            have hE0 := HE0.out
            subst hE0
            go_ret2
            exact ⟨_, rfl, hm7, fun h => absurd rfl h, fun _ => ⟨by rw [HPD.out]; exact ho6, fun g hg => by have := hvo.out g hg; omega⟩⟩
          · obtain rfl : E = 4 := by rw [HE3, if_pos (fun h => hl h.1)]
            have hpos : (0 : Int) < L'.length := by have : 0 < L'.length := List.length_pos_iff.2 hl; omega
            clear HE3
            go_wp2
            go_ret2
            exact ⟨_, rfl, hm7, fun _ => rfl, fun h => absurd h (by decide)⟩
end Go.Proofs.YthiijonmnebjgaaGreat
