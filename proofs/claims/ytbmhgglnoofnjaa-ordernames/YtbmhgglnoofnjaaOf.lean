/- Contracts of the document's order: New, Done, Next, of data none of which is Safe and sent again. Conditions: numbers up to 1000000. -/
import Derived.Test.YtbmhgglnoofnjaaYt
import Derived.Test.YtbmhgglnoofnjaaOc
namespace Go.Proofs.Ytbmhgglnoofnjaa
open Go.RowKit Go.Maps
/-- An order of the document's that has come as far as N. -/
structure Dq (w : World) (q : Nat) (N : Int) : Prop where
  blk : Bk w q 70 #[.int .i64 N]
theorem Dq.mod {S : Nat → Prop} {w w' : World} {q : Nat} {N : Int} (h : Dq w q N) (hm : Mod S w w') (hq : ¬ S q) : Dq w' q N := ⟨h.blk.mod hm hq⟩
theorem Dq.keep {w w' : World} {q : Nat} {N : Int} (h : Dq w q N) (hm : Mod (fun _ => False) w w') : Dq w' q N := h.mod hm (fun h => h)
theorem doNew (w : World) : Calls Try.prog 9 #[] w fun e w' => ∃ q, e = .returned (.pointer (some ⟨q, 0, none⟩)) ∧ Dq w' q 0 ∧ w.heap.size ≤ q ∧ Mod (fun _ => False) w w' := by
  go_enter Try.func9, Try.ntmps9
  go_wp2
  go_ret
  exact ⟨w.heap.size, rfl, ⟨Bk.new w _ _⟩, Nat.le_refl _, (Mod.refl _ w).alloc _⟩
theorem dDone_w {w : World} {q : Nat} {N : Int} (h : Dq w q N) : Calls Try.prog 16 #[.pointer (some ⟨q, 0, none⟩)] w fun e w' => e = .returned (.int .i64 N) ∧ w' = w := by
  have c1 : w.cell? ⟨q, 0, none⟩ = some (.int .i64 N) := h.blk.cellv (j := 0) rfl
  clear h
  go_enter Try.func16, Try.ntmps16
  go_wp2
  go_ret
  exact ⟨rfl, rfl⟩
def farD (w : World) (q : Nat) : Int := match w.cell? ⟨q, 0, none⟩ with | some (.int _ x) => x | _ => 0
theorem Dq.far {w : World} {q : Nat} {N : Int} (h : Dq w q N) : farD w q = N := by
  unfold farD
  rw [h.blk.cellv (j := 0) rfl]
  rfl
theorem Dq.ne {w : World} {q n : Nat} {N : Int} {v : Value} {cs : List Value} (h : Dq w q N) (hr : RG w 42 18 v n cs) : v.ownBlock ≠ some q := fun e => by
  obtain ⟨cur, hc⟩ := hr.kind e
  rw [h.blk.at'] at hc
  simp at hc
theorem Dq.set {w : World} {q : Nat} {N : Int} (h : Dq w q N) (x : Int) : Dq (w.setCell ⟨q, 0, none⟩ (.int .i64 x)) q x := ⟨h.blk.set 0 (.int .i64 x)⟩
/-- What the document's Next leaves. -/
structure Dp (w w' : World) (q : Nat) (J : Int → Option Dt) (s N : Int) (v : Value) (ds : List (Dt × Value)) (t : Nat) : Prop where
  row : Rd18 w' w.heap.size v ds
  map : ds.map (·.1) = dl J N t
  nx : Nx J s N t
  ord : Dq w' q (N + t)
  mod : Mod (fun i => i = q) w w'
set_option maxRecDepth 100000 in
set_option maxHeartbeats 4000000 in
theorem dNext_w {w : World} {p q : Nat} {X : Nat → Prop} {L : List Dt} {top a h N : Int} (hw : Dwn w p X L top) (hp : Wp (jl L) a h) (ho : Dq w q N) (hq : ¬ X q) (hN : 0 ≤ N ∧ N ≤ a) (hh : h ≤ 1000000) (hl : L.length ≤ 1000000) (hJ : ∀ k d, jl L k = some d → d.m.kind = 5 → d.m.safe = false) (s : Int) :
    Calls Try.prog 14 #[.pointer (some ⟨q, 0, none⟩), .pointer (some ⟨p, 0, none⟩), .int .i64 s] w fun e w' => ∃ v ds t, e = .returned (.tuple #[v, .int .i64 0]) ∧ Dp w w' q (jl L) s N v ds t := by
  have HW : Hid (Dwn w p X L top) := hw
  have HWP : Hid (Wp (jl L) a h) := hp
  have HX : Hid (∀ i, X i → ¬ i = q) := fun i hi e => hq (e ▸ hi)
  have HOQ : Hid (Dq w q N) := ho
  have HSAF : Hid (∀ k d, jl L k = some d → d.m.kind = 5 → d.m.safe = false) := hJ
  have HLL : Hid (L.length ≤ 1000000) := hl
  have HA : Hid (0 ≤ N ∧ N ≤ a ∧ a ≤ 1000000) := by have := hp.a_le; exact ⟨hN.1, hN.2, by omega⟩
  clear hw ho hq hN hh hp hJ hl
  go_enter Try.func14, Try.ntmps14
  go_wp2_with (fail)
  go_loopw [8] (fun v wr => ∃ (t : Nat) (ds : List (Dt × Value)), Rd18 wr w.heap.size v ds ∧ Hid (ds.map (·.1) = dl (jl L) N t) ∧ Hid (∀ i : Nat, i < t → gon (jl L) s (N + i + 1) = true) ∧ Dq wr q (N + t) ∧ Mod (fun i => i = q) w wr) (fun _ wr => (a - farD wr q).toNat)
  case atStart => exact ⟨0, [], Rd18.nil _ _, rfl, (fun i hi => by omega), by simpa using HOQ.out, Mod.refl _ _⟩
  case round =>
    obtain ⟨t, ds, hR, hmap, hall, hO, hMr⟩ := hrel
    obtain ⟨av, cv, rfl⟩ := hR.row.shape
    have hle := on_le HWP.out ⟨HA.out.1, HA.out.2.1⟩ hall.out
    obtain ⟨M, hM⟩ : ∃ M : Int, M = N + (t : Int) := ⟨_, rfl⟩
    rw [← hM] at hO hle
    have HME : Hid (M = N + (t : Int)) := hM
    have hM0 : 0 ≤ M := by have := HA.out; omega
    have hM1 : M ≤ 1000000 := by have := HA.out; omega
    have c1 : wr.cell? ⟨q, 0, none⟩ = some (.int .i64 M) := hO.blk.cellv (j := 0) rfl
    have hWr := HW.out.mod hMr HX.out
    have HLN : Hid (ds.length ≤ 1000000) := by
      have h1 := dl_len (jl L) N t
      have h2 := congrArg List.length hmap.out
      simp at h2
      have := HA.out
      show _ ≤ _
      omega
    clear hM hle
    go_wp2_with (fail)
    refine (dGet hWr HLL.out (M + 1)).mono ?_
    rintro e w2 ⟨u, rfl, hou, hm2, hg2⟩
    have hO2 := hO.keep hm2
    have hR2 := hR.keep hm2
    have hM2 : Mod (fun i => i = q) w w2 := hMr.trans hm2 (fun _ _ h => h) (fun _ _ h => h.elim)
    have hs2 : w.heap.size ≤ w2.heap.size := hM2.size
    have HU : Hid (∀ g, u.ownBlock = some g → w.heap.size ≤ g) := fun g hg => Nat.le_trans hMr.size (hg2 g hg)
    have HOW : Hid (Dq wr q M) := hO
    clear c1 hO hR hMr hm2 hg2 hWr
    have hZ : Hid (Bk _ _ _ _) := Bk.new w2 #[.int .i64 0, .int .i64 0, .int .i64 0, .int .i64 0, .int .i64 0, .int .i64 0, .int .i64 0, .int .i64 0, .int .i64 0, .int .i64 0, .int .i64 0, .int .i64 0, .bool false, .int .i64 0, .int .i64 0, .int .i64 0, .int .i64 0, .slice none 0 0] 42
    have hA := (Mod.refl (fun _ => False) w2).alloc (.cells #[.int .i64 0, .int .i64 0, .int .i64 0, .int .i64 0, .int .i64 0, .int .i64 0, .int .i64 0, .int .i64 0, .int .i64 0, .int .i64 0, .int .i64 0, .int .i64 0, .bool false, .int .i64 0, .int .i64 0, .int .i64 0, .int .i64 0, .slice none 0 0] 42)
    have HQL : Hid (q < w.heap.size) := HOQ.out.blk.lt
    cases hJ : jl L (M + 1) with
    | none =>
      rw [hJ] at hou
      simp only [Option.isSome_none, Option.getD_none] at hou ⊢
      obtain ⟨ao, cp, rfl⟩ : ∃ ao cp, u = .slice ao 0 cp := hou.shape
      have HG : Hid (gon (jl L) s (M + 1) = false) := by simp [Hid, gon, hJ]
      clear hJ
      unfold dv d0
      go_upto_region 3 with (refine wpList_store_row info18 rfl rfl _ _ rfl w2.heap.size #[.int .i64 0, .int .i64 0, .int .i64 0, .int .i64 0, .int .i64 0, .int .i64 0, .int .i64 0, .int .i64 0, .int .i64 0, .int .i64 0, .int .i64 0, .int .i64 0, .bool false, .int .i64 0, .int .i64 0, .int .i64 0, .int .i64 0, .slice ao 0 cp] rfl rfl hZ.out rfl rfl rfl ?_; intro wF hBF hMF)
      go_wp2_with (fail)
      go_ret2
      exact ⟨_, ds, t, rfl, ⟨hR2.keep (hA.trans hMF (V := fun _ => False) (fun _ _ h => h) (fun i hi h => by omega)), hmap.out, ⟨hall.out, by rw [← HME.out]; exact HG.out⟩, by rw [← HME.out]; exact hO2.keep (hA.trans hMF (V := fun _ => False) (fun _ _ h => h) (fun i hi h => by omega)), hM2.trans (hA.trans hMF (V := fun _ => False) (fun _ _ h => h) (fun i hi h => by omega)) (fun _ _ h => h) (fun _ _ h => h.elim)⟩⟩
    | some d =>
      rw [hJ] at hou
      simp only [Option.isSome_some, Option.getD_some] at hou ⊢
      obtain ⟨ao, cp, rfl⟩ := hou.shape
      obtain ⟨hdn, -, -, hrng, -⟩ := HWP.out.each _ d hJ
      have HRNG : Hid (∀ c ∈ d.m.body, 0 ≤ c ∧ c ≤ 255) := hrng
      have HJ : Hid (jl L (M + 1) = some d) := hJ
      have hsafe := HSAF.out _ d hJ
      clear hJ hdn hrng
      unfold dv
      by_cases hk : d.m.kind = 5
      · have hkb : (d.m.kind != 5) = false := by simp [hk]
        have HG : Hid (gon (jl L) s (M + 1) = true) := by simp [Hid, gon, HJ.out, hk]
        have HSF : Hid (d.m.safe = false) := hsafe hk
        have HLA : Hid (M + 1 ≤ a) := by
          have := on_le HWP.out ⟨HA.out.1, HA.out.2.1⟩ (on_next HME.out hall.out HG.out)
          have e := HME.out
          show _ ≤ _
          omega
        have HMP : Hid (ds.map (·.1) = dl (jl L) N (t + 1)) := by
          show _ = _
          rw [dl_next HME.out, hmap.out]
          simp [dk, HJ.out, hk]
        clear hk hsafe
        go_upto_region 3 with (refine wpList_store_row info18 rfl rfl _ _ rfl w2.heap.size #[.int .i64 d.q, .int .i64 d.r, .int .i64 d.n, .int .i64 d.s, .int .i64 d.t, .int .i64 d.m.kind, .int .i64 d.m.origin, .int .i64 d.m.life, .int .i64 d.m.id, .int .i64 d.m.part, .int .i64 d.m.parts, .int .i64 d.m.groups, .bool d.m.safe, .int .i64 d.m.st, .int .i64 d.m.rs, .int .i64 d.m.rr, .int .i64 d.m.sq, .slice ao d.m.body.length cp] rfl rfl hZ.out rfl rfl rfl ?_; intro wF hBF hMF)
        have c5 := hBF.cellv (j := 5) rfl
        have c12 := hBF.cellv (j := 12) rfl
        rw [HSF.out] at c12
        have hFF := hA.trans hMF (V := fun _ => False) (fun _ _ h => h) (fun i hi h => by omega)
        have hOF := hO2.keep hFF
        have cq := hOF.blk.cellv (j := 0) rfl
        have fq := hOF.blk.frz 0
        have hOS := hOF.set (M + 1)
        have hmq := (Mod.refl (fun i => i = q) wF).setCell ⟨q, 0, none⟩ (.int .i64 (M + 1)) (.inl rfl)
        have hneq := hOF.blk.lt
        have hBS := hBF.mod hmq (fun e => by have := HQL.out; omega)
        have k5 := hBS.cellv (j := 5) rfl
        go_wp2_with (fail)
        have HRr : Hid (Rd18 _ w.heap.size _ _) := (hR2.keep hFF).mod hmq (fun g hg e => by have := HQL.out; omega)
        have HOr : Hid (Dq _ q (M + 1)) := hOS
        have HMr : Hid (Mod (fun i => i = q) w _) := (hM2.trans hFF (fun _ _ h => h) (fun _ _ h => h.elim)).trans hmq (fun _ _ h => h) (fun _ _ h => h)
        clear hBF hMF hFF hOF hR2 hO2 hM2 c5 c12 cq fq hA hou hs2 hOS hmq hneq hBS k5
        go_roundw
        case rel => exact ⟨t + 1, _, HRr.out, HMP, on_next HME.out hall.out HG.out, by rw [show N + ((t + 1 : Nat) : Int) = M + 1 by have := HME.out; omega]; exact HOr.out, HMr.out⟩
        case measure =>
          have e1 := HOr.out.far
          have e2 := HOW.out.far
          have := HLA.out
          simp only [e1, e2]
          omega
      · have hkb : (d.m.kind != 5) = true := by simp [hk]
        have HK : Hid (d.m.kind ≠ 5) := hk
        clear hk hsafe
        rcases Bool.eq_false_or_eq_true d.m.safe with hsf | hsf
        · have HSF : Hid (d.m.safe = true) := hsf
          by_cases hsn : s < M + 1
          · have HG : Hid (gon (jl L) s (M + 1) = false) := by
              have := HK.out
              simp [Hid, gon, HJ.out, this, hsf, hsn]
            clear hsf
            go_upto_region 3 with (refine wpList_store_row info18 rfl rfl _ _ rfl w2.heap.size #[.int .i64 d.q, .int .i64 d.r, .int .i64 d.n, .int .i64 d.s, .int .i64 d.t, .int .i64 d.m.kind, .int .i64 d.m.origin, .int .i64 d.m.life, .int .i64 d.m.id, .int .i64 d.m.part, .int .i64 d.m.parts, .int .i64 d.m.groups, .bool d.m.safe, .int .i64 d.m.st, .int .i64 d.m.rs, .int .i64 d.m.rr, .int .i64 d.m.sq, .slice ao d.m.body.length cp] rfl rfl hZ.out rfl rfl rfl ?_; intro wF hBF hMF)
            have c5 := hBF.cellv (j := 5) rfl
            have c12 := hBF.cellv (j := 12) rfl
            rw [HSF.out] at c12
            have hFF := hA.trans hMF (V := fun _ => False) (fun _ _ h => h) (fun i hi h => by omega)
            have hOF := hO2.keep hFF
            have cq := hOF.blk.cellv (j := 0) rfl
            have fq := hOF.blk.frz 0
            go_wp2_with (fail)
            go_ret2
            exact ⟨_, ds, t, rfl, ⟨hR2.keep (hA.trans hMF (V := fun _ => False) (fun _ _ h => h) (fun i hi h => by omega)), hmap.out, ⟨hall.out, by rw [← HME.out]; exact HG.out⟩, by rw [← HME.out]; exact hO2.keep (hA.trans hMF (V := fun _ => False) (fun _ _ h => h) (fun i hi h => by omega)), hM2.trans (hA.trans hMF (V := fun _ => False) (fun _ _ h => h) (fun i hi h => by omega)) (fun _ _ h => h) (fun _ _ h => h.elim)⟩⟩
          · have HG : Hid (gon (jl L) s (M + 1) = true) := by simp [Hid, gon, HJ.out, hsn]
            clear hsf
            have HLA : Hid (M + 1 ≤ a) := by
              have := on_le HWP.out ⟨HA.out.1, HA.out.2.1⟩ (on_next HME.out hall.out HG.out)
              have e := HME.out
              show _ ≤ _
              omega
            go_upto_region 3 with (refine wpList_store_row info18 rfl rfl _ _ rfl w2.heap.size #[.int .i64 d.q, .int .i64 d.r, .int .i64 d.n, .int .i64 d.s, .int .i64 d.t, .int .i64 d.m.kind, .int .i64 d.m.origin, .int .i64 d.m.life, .int .i64 d.m.id, .int .i64 d.m.part, .int .i64 d.m.parts, .int .i64 d.m.groups, .bool d.m.safe, .int .i64 d.m.st, .int .i64 d.m.rs, .int .i64 d.m.rr, .int .i64 d.m.sq, .slice ao d.m.body.length cp] rfl rfl hZ.out rfl rfl rfl ?_; intro wF hBF hMF)
            have c5 := hBF.cellv (j := 5) rfl
            have c12 := hBF.cellv (j := 12) rfl
            rw [HSF.out] at c12
            have hFF := hA.trans hMF (V := fun _ => False) (fun _ _ h => h) (fun i hi h => by omega)
            have hOF := hO2.keep hFF
            have cq := hOF.blk.cellv (j := 0) rfl
            have fq := hOF.blk.frz 0
            have hOS := hOF.set (M + 1)
            have hmq := (Mod.refl (fun i => i = q) wF).setCell ⟨q, 0, none⟩ (.int .i64 (M + 1)) (.inl rfl)
            have hneq := hOF.blk.lt
            have hBS := hBF.mod hmq (fun e => by have := HQL.out; omega)
            have k5 := hBS.cellv (j := 5) rfl
            go_upto_region 7 with (fail)
            have hRF := (hR2.keep hFF).mod hmq (fun g hg e => by have := HQL.out; omega)
            have hoF := (hou.mod hFF (fun _ _ h => h)).mod hmq (fun g hg e => by have := HU.out g hg; have := HQL.out; omega)
            have hMF2 : Mod (fun i => i = q) w _ := (hM2.trans hFF (fun _ _ h => h) (fun _ _ h => h.elim)).trans hmq (fun _ _ h => h) (fun _ _ h => h)
            obtain ⟨wS, ewS⟩ : ∃ wS, wS = wF.setCell ⟨q, 0, none⟩ (.int .i64 (M + 1)) := ⟨_, rfl⟩
            rw [← ewS] at hRF hoF hMF2 hOS hBS ⊢
            have hA3 := (Mod.refl (fun _ => False) wS).alloc (.cells (dcl d (.slice ao d.m.body.length cp)).toArray 42)
            have hR3 := hRF.keep hA3
            have hO3 := hOS.keep hA3
            have ho3 := hoF.mod hA3 (fun _ _ h => h)
            have hM3 : Mod (fun i => i = q) w _ := hMF2.trans hA3 (fun _ _ h => h) (fun _ _ h => h.elim)
            have hSG := SG.lit wS 42 (dcl d (.slice ao d.m.body.length cp)) (dcl_one d ao _ cp)
            have HB : Hid (Bk _ _ _ _) := hBS
            have HNE : Hid ((Value.slice av ds.length cv).ownBlock ≠ some q) := hO3.ne hR3.row
            have HSZ : Hid (w.heap.size ≤ (wS.alloc (.cells (dcl d (.slice ao d.m.body.length cp)).toArray 42)).heap.size) := hM3.size
            have HBND : Hid ((ds.length + 1) * 160 ≤ 140737488355328 ∧ ds.length + 1 ≤ 9223372036854775807) := by
              have := HLN.out
              constructor <;> omega
            unfold dcl at hSG
            clear hBF hMF hFF hRF hoF hMF2 hA3 hO2 hR2 hM2 hOF c5 c12 cq fq hA hou hs2 hOS hmq hneq k5 hBS ewS
            go_wp2_with (first | (refine wpList_load_row info18 Try.underlying42 rfl rfl _ rfl w2.heap.size rfl HB.out rfl ?_; simp only [Act.put, List.setIfInBounds_toArray, List.set_cons_succ, List.set_cons_zero]) | (at_builtin; refine wpList_appG elD rfl _ _ rfl _ _ ds.length 1 (fd ds) _ rfl rfl hR3.row hSG HBND.out.1 HBND.out.2 (ds.length + 1) rfl ?_; intro ax cx w4 hRG4 hm4 hf4))
            have HRr : Hid (Rd18 w4 w.heap.size _ _) := hR3.more hm4 hRG4 hf4 HSZ.out ho3 HU.out HRNG.out
            have HOr : Hid (Dq w4 q (M + 1)) := hO3.mod hm4 HNE.out
            have HMr : Hid (Mod (fun i => i = q) w w4) := hM3.trans hm4 (fun _ _ h => h) (fun g hg e => by have := hR3.new g e; omega)
            have HMP : Hid ((ds ++ [(d, Value.slice ao d.m.body.length cp)]).map (·.1) = dl (jl L) N (t + 1)) := by
              show _ = _
              rw [dl_next HME.out, List.map_append, hmap.out]
              simp [dk, HJ.out, HK.out]
            clear hm4 hRG4 hf4 hR3 ho3 hM3 hSG hO3
            go_roundw
            case rel => exact ⟨t + 1, _, HRr.out, HMP, on_next HME.out hall.out HG.out, by rw [show N + ((t + 1 : Nat) : Int) = M + 1 by have := HME.out; omega]; exact HOr.out, HMr.out⟩
            case measure =>
              have e1 := HOr.out.far
              have e2 := HOW.out.far
              have := HLA.out
              simp only [e1, e2]
              omega
        · have HSF : Hid (d.m.safe = false) := hsf
          have HG : Hid (gon (jl L) s (M + 1) = true) := by simp [Hid, gon, HJ.out, hsf]
          clear hsf
          have HLA : Hid (M + 1 ≤ a) := by
            have := on_le HWP.out ⟨HA.out.1, HA.out.2.1⟩ (on_next HME.out hall.out HG.out)
            have e := HME.out
            show _ ≤ _
            omega
          go_upto_region 3 with (refine wpList_store_row info18 rfl rfl _ _ rfl w2.heap.size #[.int .i64 d.q, .int .i64 d.r, .int .i64 d.n, .int .i64 d.s, .int .i64 d.t, .int .i64 d.m.kind, .int .i64 d.m.origin, .int .i64 d.m.life, .int .i64 d.m.id, .int .i64 d.m.part, .int .i64 d.m.parts, .int .i64 d.m.groups, .bool d.m.safe, .int .i64 d.m.st, .int .i64 d.m.rs, .int .i64 d.m.rr, .int .i64 d.m.sq, .slice ao d.m.body.length cp] rfl rfl hZ.out rfl rfl rfl ?_; intro wF hBF hMF)
          have c5 := hBF.cellv (j := 5) rfl
          have c12 := hBF.cellv (j := 12) rfl
          rw [HSF.out] at c12
          have hFF := hA.trans hMF (V := fun _ => False) (fun _ _ h => h) (fun i hi h => by omega)
          have hOF := hO2.keep hFF
          have cq := hOF.blk.cellv (j := 0) rfl
          have fq := hOF.blk.frz 0
          have hOS := hOF.set (M + 1)
          have hmq := (Mod.refl (fun i => i = q) wF).setCell ⟨q, 0, none⟩ (.int .i64 (M + 1)) (.inl rfl)
          have hneq := hOF.blk.lt
          have hBS := hBF.mod hmq (fun e => by have := HQL.out; omega)
          have k5 := hBS.cellv (j := 5) rfl
          go_upto_region 7 with (fail)
          have hRF := (hR2.keep hFF).mod hmq (fun g hg e => by have := HQL.out; omega)
          have hoF := (hou.mod hFF (fun _ _ h => h)).mod hmq (fun g hg e => by have := HU.out g hg; have := HQL.out; omega)
          have hMF2 : Mod (fun i => i = q) w _ := (hM2.trans hFF (fun _ _ h => h) (fun _ _ h => h.elim)).trans hmq (fun _ _ h => h) (fun _ _ h => h)
          obtain ⟨wS, ewS⟩ : ∃ wS, wS = wF.setCell ⟨q, 0, none⟩ (.int .i64 (M + 1)) := ⟨_, rfl⟩
          rw [← ewS] at hRF hoF hMF2 hOS hBS ⊢
          have hA3 := (Mod.refl (fun _ => False) wS).alloc (.cells (dcl d (.slice ao d.m.body.length cp)).toArray 42)
          have hR3 := hRF.keep hA3
          have hO3 := hOS.keep hA3
          have ho3 := hoF.mod hA3 (fun _ _ h => h)
          have hM3 : Mod (fun i => i = q) w _ := hMF2.trans hA3 (fun _ _ h => h) (fun _ _ h => h.elim)
          have hSG := SG.lit wS 42 (dcl d (.slice ao d.m.body.length cp)) (dcl_one d ao _ cp)
          have HB : Hid (Bk _ _ _ _) := hBS
          have HNE : Hid ((Value.slice av ds.length cv).ownBlock ≠ some q) := hO3.ne hR3.row
          have HSZ : Hid (w.heap.size ≤ (wS.alloc (.cells (dcl d (.slice ao d.m.body.length cp)).toArray 42)).heap.size) := hM3.size
          have HBND : Hid ((ds.length + 1) * 160 ≤ 140737488355328 ∧ ds.length + 1 ≤ 9223372036854775807) := by
            have := HLN.out
            constructor <;> omega
          unfold dcl at hSG
          clear hBF hMF hFF hRF hoF hMF2 hA3 hO2 hR2 hM2 hOF c5 c12 cq fq hA hou hs2 hOS hmq hneq k5 hBS ewS
          go_wp2_with (first | (refine wpList_load_row info18 Try.underlying42 rfl rfl _ rfl w2.heap.size rfl HB.out rfl ?_; simp only [Act.put, List.setIfInBounds_toArray, List.set_cons_succ, List.set_cons_zero]) | (at_builtin; refine wpList_appG elD rfl _ _ rfl _ _ ds.length 1 (fd ds) _ rfl rfl hR3.row hSG HBND.out.1 HBND.out.2 (ds.length + 1) rfl ?_; intro ax cx w4 hRG4 hm4 hf4))
          have HRr : Hid (Rd18 w4 w.heap.size _ _) := hR3.more hm4 hRG4 hf4 HSZ.out ho3 HU.out HRNG.out
          have HOr : Hid (Dq w4 q (M + 1)) := hO3.mod hm4 HNE.out
          have HMr : Hid (Mod (fun i => i = q) w w4) := hM3.trans hm4 (fun _ _ h => h) (fun g hg e => by have := hR3.new g e; omega)
          have HMP : Hid ((ds ++ [(d, Value.slice ao d.m.body.length cp)]).map (·.1) = dl (jl L) N (t + 1)) := by
            show _ = _
            rw [dl_next HME.out, List.map_append, hmap.out]
            simp [dk, HJ.out, HK.out]
          clear hm4 hRG4 hf4 hR3 ho3 hM3 hSG hO3
          go_roundw
          case rel => exact ⟨t + 1, _, HRr.out, HMP, on_next HME.out hall.out HG.out, by rw [show N + ((t + 1 : Nat) : Int) = M + 1 by have := HME.out; omega]; exact HOr.out, HMr.out⟩
          case measure =>
            have e1 := HOr.out.far
            have e2 := HOW.out.far
            have := HLA.out
            simp only [e1, e2]
            omega
end Go.Proofs.Ytbmhgglnoofnjaa
