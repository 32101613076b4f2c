/- Contract of change's At. Conditions: as many data as a slice can have. -/
import Derived.Test.YtampdkbcijdpcaaBd
namespace Go.Proofs.Ytampdkbcijdpcaa
open Go.RowKit Go.Maps
/-- The transitional configuration; the one that begins. -/
def cgT (c x : Cg) (kin : Int) : Cg := ⟨x.q, x.r, c.q, c.r, kin, true, 0⟩
def cgN (x : Cg) : Cg := ⟨x.q, x.r, 0, 0, x.mem, false, x.st⟩
/-- What is told, of k numbers behind N and of the data ab above these. -/
def tld (J : Int → Option Dt) (c x : Cg) (kin N : Int) (k : Nat) (ab : List Dt) : List Ev := (dl J N k).map evD ++ (evC (cgT c x kin) :: ((lf kin true (N + k) ab).map evD ++ [evC (cgN x)]))
def atOK (c x : Cg) (N kin : Int) : Bool := !decide (N < 0) && (rise c.q c.r x.q x.r && kinOK kin c.mem x.mem)
set_option maxRecDepth 100000 in
set_option maxHeartbeats 8000000 in
theorem At_w {w : World} {p : Nat} {X : Nat → Prop} {J : Int → Option Dt} {a h : Int} {n : Nat} (hw : Wn w p X J a h n) (hn : n ≤ 1000000) (c x : Cg) (N s kin : Int) (hNI : I64 N) (hki : I64 kin) (hcm : I64 c.mem) (hxm : I64 x.mem) (hok : atOK c x N kin = true) (hK : Few J N 1000000) :
    Calls Try.prog 11 #[.agg #[.int .i64 c.q, .int .i64 c.r, .int .i64 c.oq, .int .i64 c.or_, .int .i64 c.mem, .bool c.tr, .int .i64 c.st, .int .i64 N, .int .i64 s], .pointer (some ⟨p, 0, none⟩), .int .i64 kin, .agg #[.int .i64 x.q, .int .i64 x.r, .int .i64 x.oq, .int .i64 x.or_, .int .i64 x.mem, .bool x.tr, .int .i64 x.st]] w fun e w' => ∃ (k : Nat) (v : Value) (es : List (Ev × Value)) (zs : List Int), e = .returned (.tuple #[v, .int .i64 0]) ∧ Nc J s N k ∧ N + (k : Int) ≤ 9223372036854775807 ∧ Ks J (N + k) zs ∧ es.map (·.1) = tld J c x kin N k (zs.map (fun k => (J k).getD d0)) ∧ Re w' w.heap.size v es ∧ es.length ≤ 3000000 ∧ Mod (fun _ => False) w w' := by
  have hok' : ¬ N < 0 ∧ rise c.q c.r x.q x.r = true ∧ kinOK kin c.mem x.mem = true := by
    simpa [atOK] using hok
  obtain ⟨hN0, hri, hkn⟩ := hok'
  have HNW := fun W (hW : Wn W p X J a h n) => noWinC hW
  have HRI := fun W => isRise_w c.q c.r x.q x.r W
  have HKN := fun W => isKin_w kin c.mem x.mem W hki hcm hxm
  rw [hri] at HRI
  rw [hkn] at HKN
  obtain ⟨wb, ewb⟩ : ∃ W, W = (w.alloc (.cells #[.int .i64 c.q, .int .i64 c.r, .int .i64 c.oq, .int .i64 c.or_, .int .i64 c.mem, .bool c.tr, .int .i64 c.st, .int .i64 N, .int .i64 s] 27)).alloc (.cells #[.int .i64 x.q, .int .i64 x.r, .int .i64 x.oq, .int .i64 x.or_, .int .i64 x.mem, .bool x.tr, .int .i64 x.st] 25) := ⟨_, rfl⟩
  have hM : Mod (fun _ => False) w wb := by rw [ewb]; exact ((Mod.refl (fun _ => False) w).alloc _).alloc _
  have hO : Bk wb w.heap.size 27 #[.int .i64 c.q, .int .i64 c.r, .int .i64 c.oq, .int .i64 c.or_, .int .i64 c.mem, .bool c.tr, .int .i64 c.st, .int .i64 N, .int .i64 s] := by rw [ewb]; exact (Bk.new w _ _).mod ((Mod.refl (fun _ => False) _).alloc _) (fun h => h)
  have hN : Bk wb (w.heap.size + 1) 25 #[.int .i64 x.q, .int .i64 x.r, .int .i64 x.oq, .int .i64 x.or_, .int .i64 x.mem, .bool x.tr, .int .i64 x.st] := by rw [ewb]; have := Bk.new (w.alloc (.cells #[.int .i64 c.q, .int .i64 c.r, .int .i64 c.oq, .int .i64 c.or_, .int .i64 c.mem, .bool c.tr, .int .i64 c.st, .int .i64 N, .int .i64 s] 27)) #[.int .i64 x.q, .int .i64 x.r, .int .i64 x.oq, .int .i64 x.or_, .int .i64 x.mem, .bool x.tr, .int .i64 x.st] 25; simpa using this
  obtain ⟨ka, eka⟩ : ∃ k, k = w.heap.size := ⟨_, rfl⟩
  obtain ⟨kb, ekb⟩ : ∃ k, k = w.heap.size + 1 := ⟨_, rfl⟩
  rw [← eka] at hO
  rw [← ekb] at hN
  have HKA : Hid (ka < wb.heap.size ∧ kb < wb.heap.size ∧ w.heap.size ≤ wb.heap.size) := ⟨hO.lt, hN.lt, hM.size⟩
  have HWB : Hid (Wn wb p X J a h n) := hw.keep hM
  have HXL : Hid (∀ i, X i → i < w.heap.size) := hw.mem.lt
  have HO : Hid (Bk wb ka 27 #[.int .i64 c.q, .int .i64 c.r, .int .i64 c.oq, .int .i64 c.or_, .int .i64 c.mem, .bool c.tr, .int .i64 c.st, .int .i64 N, .int .i64 s]) := hO
  have HNX : Hid (Bk wb kb 25 #[.int .i64 x.q, .int .i64 x.r, .int .i64 x.oq, .int .i64 x.or_, .int .i64 x.mem, .bool x.tr, .int .i64 x.st]) := hN
  have HM : Hid (Mod (fun _ => False) w wb) := hM
  have HN0 : Hid (0 ≤ N ∧ N ≤ 9223372036854775807) := by unfold I64 at hNI; exact ⟨by omega, hNI.2⟩
  have HK : Hid (Few J N 1000000) := hK
  have HNN : Hid (n ≤ 1000000) := hn
  clear hw hn hNI hki hcm hxm hok hK hri hkn hM
  have a0 := hO.cellv (j := 0) rfl
  have a1 := hO.cellv (j := 1) rfl
  have a2 := hO.cellv (j := 2) rfl
  have a3 := hO.cellv (j := 3) rfl
  have a4 := hO.cellv (j := 4) rfl
  have a5 := hO.cellv (j := 5) rfl
  have a6 := hO.cellv (j := 6) rfl
  have a7 := hO.cellv (j := 7) rfl
  have a8 := hO.cellv (j := 8) rfl
  have n0 := hN.cellv (j := 0) rfl
  have n1 := hN.cellv (j := 1) rfl
  have n2 := hN.cellv (j := 2) rfl
  have n3 := hN.cellv (j := 3) rfl
  have n4 := hN.cellv (j := 4) rfl
  have n5 := hN.cellv (j := 5) rfl
  have n6 := hN.cellv (j := 6) rfl
  clear hO hN
  go_enter Try.func11, Try.ntmps11
  go_upto_region 1 with (fail)
  rw [← ewb]
  try simp only [World.size_alloc]
  rw [← ekb, ← eka]
  clear ewb eka ekb
  go_wp2_with (fail)
  refine (HNW _ HWB.out).mono ?_
  rintro e w1 ⟨rfl, e1⟩
  replace e1 := e1.symm
  subst e1
  go_wp2_with (fail)
  refine (HRI _).mono ?_
  rintro e w2 ⟨rfl, hm2⟩
  clear a0 a1 a2 a3 a4 a5 a6 a7 a8
  clear n0 n1 n2 n3 n4 n5 n6
  have hO2 := HO.out.mod hm2 (fun h => h)
  have hN2 := HNX.out.mod hm2 (fun h => h)
  have a0 := hO2.cellv (j := 0) rfl
  have a1 := hO2.cellv (j := 1) rfl
  have a2 := hO2.cellv (j := 2) rfl
  have a3 := hO2.cellv (j := 3) rfl
  have a4 := hO2.cellv (j := 4) rfl
  have a5 := hO2.cellv (j := 5) rfl
  have a6 := hO2.cellv (j := 6) rfl
  have a7 := hO2.cellv (j := 7) rfl
  have a8 := hO2.cellv (j := 8) rfl
  have n0 := hN2.cellv (j := 0) rfl
  have n1 := hN2.cellv (j := 1) rfl
  have n2 := hN2.cellv (j := 2) rfl
  have n3 := hN2.cellv (j := 3) rfl
  have n4 := hN2.cellv (j := 4) rfl
  have n5 := hN2.cellv (j := 5) rfl
  have n6 := hN2.cellv (j := 6) rfl
  go_wp2_with (fail)
  refine (HKN _).mono ?_
  rintro e w3 ⟨rfl, hm3⟩
  clear a0 a1 a2 a3 a4 a5 a6 a7 a8
  clear n0 n1 n2 n3 n4 n5 n6
  clear hO2 hN2
  have HM13 : Hid (Mod (fun _ => False) wb w3) := hm2.and hm3
  clear hm2 hm3 HRI HKN HNW
  go_upto_region 6 with (fail)
  obtain ⟨w4, ew4⟩ : ∃ W, W = w3.alloc (.cells #[.slice none 0 0] 85) := ⟨_, rfl⟩
  obtain ⟨t, et⟩ : ∃ t, t = w3.heap.size := ⟨_, rfl⟩
  have hm4 : Mod (fun _ => False) w3 w4 := by rw [ew4]; exact (Mod.refl _ w3).alloc _
  have hTB : Bk w4 t 85 #[.slice none 0 0] := by rw [ew4, et]; exact Bk.new w3 _ _
  rw [← ew4, ← et]
  have HM14 : Hid (Mod (fun _ => False) wb w4) := HM13.out.and hm4
  have HTL : Hid (Tl w4 t t (.slice none 0 0) []) := ⟨hTB, Re.nil _ _⟩
  have HT3 : Hid (t = w3.heap.size) := et
  have HTS : Hid (wb.heap.size ≤ t ∧ t < w4.heap.size) := ⟨by rw [et]; exact HM13.out.size, hTB.lt⟩
  have HXT : Hid (∀ i, X i → i < t) := fun i hi => by have := HXL.out i hi; have := HKA.out; have := HTS.out; omega
  have HW4 : Hid (Wn w4 p X J a h n) := HWB.out.keep HM14.out
  have HO4 : Hid (Bk w4 ka 27 #[.int .i64 c.q, .int .i64 c.r, .int .i64 c.oq, .int .i64 c.or_, .int .i64 c.mem, .bool c.tr, .int .i64 c.st, .int .i64 N, .int .i64 s]) := HO.out.mod HM14.out (fun h => h)
  have HN4 : Hid (Bk w4 kb 25 #[.int .i64 x.q, .int .i64 x.r, .int .i64 x.oq, .int .i64 x.or_, .int .i64 x.mem, .bool x.tr, .int .i64 x.st]) := HNX.out.mod HM14.out (fun h => h)
  have HKT : Hid (ka < t ∧ kb < t) := by have := HKA.out; have := HTS.out; exact ⟨by omega, by omega⟩
  clear ew4 et hTB hm4
  have a0 := HO4.out.cellv (j := 0) rfl
  have a1 := HO4.out.cellv (j := 1) rfl
  have a2 := HO4.out.cellv (j := 2) rfl
  have a3 := HO4.out.cellv (j := 3) rfl
  have a4 := HO4.out.cellv (j := 4) rfl
  have a5 := HO4.out.cellv (j := 5) rfl
  have a6 := HO4.out.cellv (j := 6) rfl
  have a7 := HO4.out.cellv (j := 7) rfl
  have a8 := HO4.out.cellv (j := 8) rfl
  have HDL := delivered_w HW4.out HTL.out HXT.out (Nat.le_refl _) (Nat.le_of_lt HTS.out.2) c N s HN0.out HK.out (by simp)
  go_wp2_with (fail)
  refine HDL.mono ?_
  rintro e w5 ⟨k, v5, es5, rfl, hk5, hmap5, hNc, hP5⟩
  clear a0 a1 a2 a3 a4 a5 a6 a7 a8
  have hks : Few J N 1000000 := HK.out
  have HDK : Hid (k ≤ 1000000) := hks k (fun i hi => cgo_some (hNc.on i hi))
  have HL5 : Hid (es5.length ≤ 1000000) := by
    have h1 := congrArg List.length hmap5
    have h2 := dl_len J N k
    have h3 := HDK.out
    simp only [List.length_map, List.length_append, List.map_nil, List.length_nil] at h1
    show _ ≤ _
    omega
  have HMP5 : Hid (es5.map (·.1) = (dl J N k).map evD) := by show _ = _; simpa using hmap5
  have HNC : Hid (Nc J s N k ∧ N + (k : Int) ≤ 9223372036854775807) := ⟨hNc, hk5⟩
  have HP5 : Hid (Tp w4 w5 t t (.slice none 0 0) v5 es5) := hP5
  have hbe : ∀ i, Tb t (.slice none 0 0) i → i = t := fun i hi => by
    rcases hi with hi | hi
    · exact hi
    · cases hi
  have HBE : Hid (∀ i, Tb t (.slice none 0 0) i → i = t) := hbe
  have HO5 : Hid (Bk w5 ka 27 #[.int .i64 c.q, .int .i64 c.r, .int .i64 c.oq, .int .i64 c.or_, .int .i64 c.mem, .bool c.tr, .int .i64 c.st, .int .i64 N, .int .i64 s]) := HO4.out.mod hP5.mod (fun hq => by have := hbe _ hq; have := HKT.out; omega)
  have HN5 : Hid (Bk w5 kb 25 #[.int .i64 x.q, .int .i64 x.r, .int .i64 x.oq, .int .i64 x.or_, .int .i64 x.mem, .bool x.tr, .int .i64 x.st]) := HN4.out.mod hP5.mod (fun hq => by have := hbe _ hq; have := HKT.out; omega)
  obtain ⟨last, hlast⟩ : ∃ z, z = N + (k : Int) := ⟨_, rfl⟩
  have HLS : Hid (last = N + (k : Int)) := hlast
  have HCF := config_w hP5.tl (Nat.le_trans (Nat.le_of_lt HTS.out.2) hP5.mod.size) (by have := HL5.out; omega) (cgT c x kin)
  unfold cgl cgT at HCF
  simp only at HCF
  rw [← hlast]
  clear hP5 hbe hNc hk5 hmap5 hks hlast HDL
  have a0 := HO5.out.cellv (j := 0) rfl
  have a1 := HO5.out.cellv (j := 1) rfl
  have a2 := HO5.out.cellv (j := 2) rfl
  have a3 := HO5.out.cellv (j := 3) rfl
  have a4 := HO5.out.cellv (j := 4) rfl
  have a5 := HO5.out.cellv (j := 5) rfl
  have a6 := HO5.out.cellv (j := 6) rfl
  have a7 := HO5.out.cellv (j := 7) rfl
  have a8 := HO5.out.cellv (j := 8) rfl
  have n0 := HN5.out.cellv (j := 0) rfl
  have n1 := HN5.out.cellv (j := 1) rfl
  have n2 := HN5.out.cellv (j := 2) rfl
  have n3 := HN5.out.cellv (j := 3) rfl
  have n4 := HN5.out.cellv (j := 4) rfl
  have n5 := HN5.out.cellv (j := 5) rfl
  have n6 := HN5.out.cellv (j := 6) rfl
  go_wp2_with (fail)
  refine HCF.mono ?_
  rintro e w6 ⟨rfl, v6, hP6⟩
  clear a0 a1 a2 a3 a4 a5 a6 a7 a8
  clear n0 n1 n2 n3 n4 n5 n6
  have HP6 : Hid (Tp w4 w6 t t (.slice none 0 0) v6 (es5 ++ [(evC (cgT c x kin), .slice none 0 0)])) := ⟨hP6.tl, Tb.and HP5.out.mod HP5.out.fr hP6.mod, Fr.and HP5.out.mod.size HP5.out.fr hP6.fr⟩
  have HN6 : Hid (Bk w6 kb 25 #[.int .i64 x.q, .int .i64 x.r, .int .i64 x.oq, .int .i64 x.or_, .int .i64 x.mem, .bool x.tr, .int .i64 x.st]) := HN4.out.mod HP6.out.mod (fun hq => by have := HBE.out _ hq; have := HKT.out; omega)
  have HAB := Above_w (HW4.out.mod HP6.out.mod (fun i hi hq => by have := HBE.out _ hq; have := HXT.out i hi; omega)) HNN.out last
  clear hP6 HCF
  go_wp2_with (fail)
  refine HAB.mono ?_
  rintro e w7 ⟨lv, ls, zs, rfl, hR7, hKs, hlm, hzl, hm7⟩
  have HP7 : Hid (Tp w4 w7 t t (.slice none 0 0) v6 (es5 ++ [(evC (cgT c x kin), .slice none 0 0)])) := ⟨HP6.out.tl.keep hm7, HP6.out.mod.trans hm7 (fun _ _ h => h) (fun _ _ h => h.elim), HP6.out.fr⟩
  have HN7 : Hid (Bk w7 kb 25 #[.int .i64 x.q, .int .i64 x.r, .int .i64 x.oq, .int .i64 x.or_, .int .i64 x.mem, .bool x.tr, .int .i64 x.st]) := HN6.out.mod hm7 (fun h => h)
  have hl0 : ls.length = zs.length := by have := congrArg List.length hlm; simpa using this
  have HLL : Hid (ls.length ≤ 1000000) := by have := HNN.out; show _ ≤ _; omega
  have hns : ∀ y ∈ ls, last < y.1.n ∧ y.1.n ≤ 9007199254740991 ∧ 1 ≤ y.1.n := fun y hy => by
    have h1 : y.1 ∈ zs.map (fun k => (J k).getD d0) := by rw [← hlm]; exact List.mem_map_of_mem hy
    obtain ⟨z, hz, hz2⟩ := List.mem_map.1 h1
    obtain ⟨hz3, hz4⟩ := (hKs.mem z).1 hz
    obtain ⟨d, hd⟩ := Option.isSome_iff_exists.1 hz4
    have h2 := HW4.out.wp.each z d hd
    rw [hd] at hz2
    simp only [Option.getD_some] at hz2
    rw [← hz2]
    exact ⟨by rw [h2.1]; exact hz3, by rw [h2.1]; exact h2.2.2.1, by rw [h2.1]; exact h2.2.1⟩
  have HLF := left_w HP7.out.tl (Nat.le_trans (Nat.le_of_lt HTS.out.2) HP7.out.mod.size) (Nat.le_refl _) hR7 (Nat.le_trans (Nat.le_of_lt HTS.out.2) HP6.out.mod.size) (fun g hg1 _ hq => by
    rcases hq with hq | hq
    · have := HTS.out; have := HP6.out.mod.size; omega
    · have := HP6.out.tl.row.row.lt g hq; omega) kin last (by have h1 := HNC.out.2; have h2 := HN0.out; have h3 := HLS.out; unfold I64; omega) hns (by have := HL5.out; simp; omega) HLL.out
  have HKS : Hid (Ks J last zs) := hKs
  have HLM : Hid (ls.map (·.1) = zs.map (fun k => (J k).getD d0)) := hlm
  clear hR7 hKs hlm hzl hm7 hl0 hns HAB
  go_wp2_with (fail)
  refine HLF.mono ?_
  rintro e w8 ⟨rfl, v8, es8, hmap8, hP8⟩
  have HP8 : Hid (Tp w4 w8 t t (.slice none 0 0) v8 es8) := ⟨hP8.tl, Tb.and HP7.out.mod HP7.out.fr hP8.mod, Fr.and HP7.out.mod.size HP7.out.fr hP8.fr⟩
  have HN8 : Hid (Bk w8 kb 25 #[.int .i64 x.q, .int .i64 x.r, .int .i64 x.oq, .int .i64 x.or_, .int .i64 x.mem, .bool x.tr, .int .i64 x.st]) := HN4.out.mod HP8.out.mod (fun hq => by have := HBE.out _ hq; have := HKT.out; omega)
  have HMP8 : Hid (es8.map (·.1) = (dl J N k).map evD ++ (evC (cgT c x kin) :: (lf kin true last (zs.map (fun k => (J k).getD d0))).map evD)) := by
    show _ = _
    rw [hmap8, List.map_append, HMP5.out, HLM.out]
    simp
  have HL8 : Hid (es8.length ≤ 2100000) := by
    have h1 := congrArg List.length hmap8
    have h2 := lf_len kin (ls.map (·.1)) true last
    have h3 := HL5.out
    have h4 := HLL.out
    simp only [List.length_map, List.length_append, List.length_cons, List.length_nil] at h1 h2
    show _ ≤ _
    omega
  have HCG := config_w hP8.tl (Nat.le_trans (Nat.le_of_lt HTS.out.2) HP8.out.mod.size) (by have := HL8.out; omega) (cgN x)
  unfold cgl cgN at HCG
  simp only at HCG
  clear hP8 hmap8 HLF
  have n0 := HN8.out.cellv (j := 0) rfl
  have n1 := HN8.out.cellv (j := 1) rfl
  have n2 := HN8.out.cellv (j := 2) rfl
  have n3 := HN8.out.cellv (j := 3) rfl
  have n4 := HN8.out.cellv (j := 4) rfl
  have n5 := HN8.out.cellv (j := 5) rfl
  have n6 := HN8.out.cellv (j := 6) rfl
  go_wp2_with (fail)
  refine HCG.mono ?_
  rintro e w9 ⟨rfl, v9, hP9⟩
  clear n0 n1 n2 n3 n4 n5 n6
  have HP9 : Hid (Tp w4 w9 t t (.slice none 0 0) v9 (es8 ++ [(evC (cgN x), .slice none 0 0)])) := ⟨hP9.tl, Tb.and HP8.out.mod HP8.out.fr hP9.mod, Fr.and HP8.out.mod.size HP8.out.fr hP9.fr⟩
  have z0 : w9.cell? ⟨t, 0, none⟩ = some v9 := hP9.tl.blk.cellv (j := 0) rfl
  clear hP9 HCG
  go_wp2
  go_ret2
  refine ⟨k, v9, _, zs, rfl, HNC.out.1, HNC.out.2, by rw [← HLS.out]; exact HKS.out, ?_, ⟨HP9.out.tl.row.row, fun g hg => ?_, fun y hy => ?_⟩, ?_, ?_⟩
  · rw [List.map_append, HMP8.out, tld, ← HLS.out]
    simp
  · have h1 := HP9.out.tl.row.new g hg; have h2 := HKA.out; have h3 := HTS.out; omega
  · obtain ⟨q1, q2, q3⟩ := HP9.out.tl.row.each y hy
    exact ⟨q1, fun g hg => by have h1 := q2 g hg; have h2 := HKA.out; have h3 := HTS.out; omega, q3⟩
  · have h1 := HL8.out
    simp
    omega
  · exact (HM.out.and HM14.out).trans HP9.out.mod (V := fun _ => False) (fun _ _ h => h) (fun i hi hq => by have h1 := HBE.out i hq; have h2 := HKA.out; have h3 := HTS.out; omega)
end Go.Proofs.Ytampdkbcijdpcaa
