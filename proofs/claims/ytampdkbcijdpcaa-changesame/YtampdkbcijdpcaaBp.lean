/- Rows of ints appended to; contracts of the laws' plain and delivered; ChangeSame in plain words. Conditions: numbers up to 1000000. -/
import Derived.Test.YtampdkbcijdpcaaBj
import Derived.OwnWalk
namespace Go.Proofs.Ytampdkbcijdpcaa
open Go.RowKit Go.Maps
theorem infoI : (Try.prog.info? 3).map (fun i => (i.zero, i.size, i.bytes)) = some (some (.int .i64 0), 1, 8) := by kernel_rfl
theorem elI : El 55 3 1 8 := ⟨Try.underlying55, by
  have h := infoI
  cases hi : Try.prog.info? 3 with
  | none => rw [hi] at h; cases h
  | some i =>
    rw [hi] at h
    simp only [Option.map_some, Option.some.injEq, Prod.mk.injEq] at h
    exact ⟨i, _, rfl, h.1, h.2.1, h.2.2, rfl⟩⟩
theorem Own.rgI {w : World} {v : Value} {l : List Int} (h : Cr.Own w v l) : RG w 3 1 v l.length (Cr.U l) := by
  rcases h.2 with ⟨rfl, h0⟩ | ⟨g, cap, cur, rfl, hb, hg, hn, hcm, hcs, ht⟩
  · obtain rfl : l = [] := List.eq_nil_of_length_eq_zero h0
    exact RG.nil w _ _
  · refine ⟨by rw [Cr.U_len, Nat.mul_one], ⟨some ⟨g, 0, none⟩, cap, rfl, hn, .inr ⟨g, 0, cur, rfl, ⟨hg⟩, by omega, fun j c hj => ?_⟩⟩⟩
    have hj2 : j < l.length := by
      rcases Nat.lt_or_ge j (Cr.U l).length with h1 | h1
      · rwa [Cr.U_len] at h1
      · rw [List.getElem?_eq_none h1] at hj; cases hj
    have h1 := World.ownsRow.cellAt h j (by omega)
    have hB : Bk w g 3 cur := ⟨hg⟩
    rw [hB.cell] at h1
    rw [Nat.zero_add, h1, hj]
theorem eqRG {w : World} {u v : Value} {l : List Int} (hu : RG w 3 1 u l.length (Cr.U l)) (hv : RG w 3 1 v l.length (Cr.U l)) (hl : l.length ≤ 100000000) : Calls Try.prog 21 #[u, v] w fun e w' => e = .returned (.bool true) ∧ Mod (fun _ => False) w w' := by
  rcases Nat.eq_zero_or_pos l.length with h0 | h0
  · obtain ⟨a1, c1, rfl⟩ := hu.shape
    obtain ⟨a2, c2, rfl⟩ := hv.shape
    rw [h0]
    refine (Cr.EqInts_zero a1 c1 a2 c2 w).mono ?_
    rintro e w' ⟨rfl, rfl⟩
    exact ⟨rfl, Mod.refl _ _⟩
  · obtain ⟨g1, o1, c1, rfl, r1⟩ := hu.range h0
    obtain ⟨g2, o2, c2, rfl, r2⟩ := hv.range h0
    refine (Cr.EqInts_some g1 o1 c1 g2 o2 c2 l l w rfl (by omega) (fun j hj => r1 j _ (Cr.U_get l j hj)) (fun j hj => r2 j _ (Cr.U_get l j hj))).mono ?_
    rintro e w' ⟨rfl, n, rfl⟩
    exact ⟨by simp, (Mod.refl _ _).drewN n⟩
/-- Those above 0. -/
def pos (l : List Int) : List Int := l.filter fun x => decide (0 < x)
set_option maxRecDepth 100000 in
set_option maxHeartbeats 4000000 in
theorem plain_w (v : Value) (l : List Int) (w : World) (hv : Cr.Own w v l) (hl : l.length ≤ 10000000) : Calls Try.prog 19 #[v] w fun e w' => ∃ u, e = .returned u ∧ Cr.Own w' u (pos l) ∧ Mod (fun _ => False) w w' ∧ (∀ g, u.ownBlock = some g → w.heap.size ≤ g) := by
  have HV : Hid (Cr.Own w v l) := hv
  obtain ⟨av, cv, rfl⟩ := hv.shape
  clear hv
  go_enter Try.func19, Try.ntmps19
  go_wp2_with (fail)
  go_loopw [3, 4] (fun u i wr => ∃ (j : Nat), i = .int .i64 (j : Int) ∧ j ≤ l.length ∧ Cr.Own wr u (pos (l.take j)) ∧ Mod (fun _ => False) w wr ∧ Hid (∀ g, u.ownBlock = some g → w.heap.size ≤ g)) (fun _ i _ => l.length - (intOf i).toNat)
  case atStart => exact ⟨0, rfl, Nat.zero_le _, by simpa [pos] using Cr.Own.nil _, Mod.refl _ _, by intro g hg; simp [Value.ownBlock] at hg⟩
  case round =>
    obtain ⟨j, rfl, hj, ho, hMr, hnew⟩ := hrel
    by_cases hlt : j < l.length
    · have hlt' : (j : Int) < (l.length : Int) := by omega
      obtain ⟨x, hx⟩ : ∃ x, l[j]? = some x := ⟨l[j], List.getElem?_eq_getElem hlt⟩
      obtain ⟨ax, cx, e, -, -, -, hcl⟩ := (HV.out.mod hMr (fun _ _ h => h)).sl
      simp only [Value.slice.injEq, true_and] at e
      obtain ⟨rfl, rfl⟩ := e
      obtain ⟨gb, of, rfl, hc⟩ := hcl (by intro e; rw [e] at hlt; simp at hlt)
      have c0 : wr.cell? ⟨gb, of + j, none⟩ = some (.int .i64 x) := by
        have h1 := hc j hlt
        rwa [show l.getD j 0 = x by simp [List.getD, hx]] at h1
      obtain ⟨ao, cp2, rfl⟩ := ho.shape
      have HT0 : Hid (pos (l.take (j + 1)) = pos (l.take j) ++ (if 0 < x then [x] else [])) := by
        show _ = _
        rw [List.take_add_one, hx, pos, pos, List.filter_append]
        by_cases h : 0 < x
        · simp [h]
        · simp [h]
      have HL : Hid ((pos (l.take j)).length + 1 ≤ 1000000000000) := by
        have h1 := List.length_filter_le (fun x => decide ((0 : Int) < x)) (l.take j)
        have h2 := List.length_take_le j l
        show (List.filter _ _).length + 1 ≤ _
        omega
      have hb1 : (0 : Int) ≤ (j : Int) := by omega
      have hjb : (j : Int) + 1 ≤ 10000000 := by omega
      have HLT : Hid (j < l.length) := hlt
      clear hc hcl hx
      generalize pos (l.take j) = L at *
      by_cases h0 : 0 < x
      · have HT : Hid (pos (l.take (j + 1)) = L ++ [x]) := by show _ = _; rw [HT0.out, if_pos h0]
        clear HT0
        go_wp2_with (at_builtin; refine wpList_app1 rfl _ _ rfl _ L x wr.heap.size rfl rfl (ho.mod ((Mod.refl (fun _ => False) wr).alloc _) (fun _ _ h => h)) (Bk.new wr #[.int .i64 x] 3).cellz HL.out ?_; intro v4 w4 ho4 hm4 hf4)
        have HN4 : Hid (∀ g, v4.ownBlock = some g → w.heap.size ≤ g) := fun g hg => by
          rcases hf4 g hg with h1 | h1
          · exact hnew.out g h1
          · have := hMr.size; simp at h1; omega
        have HM4 : Hid (Mod (fun _ => False) w w4) := (hMr.alloc _).trans hm4 (fun _ _ h => h) (fun g hg e => by have := hnew.out g e; omega)
        clear hf4 hm4
        go_roundw
        case rel => exact ⟨j + 1, by go_num, HLT.out, by rw [HT.out]; exact ho4, HM4.out, HN4⟩
        case measure =>
          have := HLT.out
          simp [intOf]
          omega
      · have HT : Hid (pos (l.take (j + 1)) = L) := by show _ = _; rw [HT0.out, if_neg h0, List.append_nil]
        clear HT0
        go_wp2
        go_roundw
        case rel => exact ⟨j + 1, by go_num, HLT.out, by rw [HT.out]; exact ho, hMr, hnew⟩
        case measure =>
          have := HLT.out
          simp [intOf]
          omega
    · have HE : Hid (j = l.length) := by show _ = _; omega
      obtain ⟨ao, cp2, rfl⟩ := ho.shape
      go_wp2
      go_ret
      have hl2 : pos (l.take j) = pos l := by rw [HE.out, List.take_length]
      refine ⟨_, rfl, ?_, hMr, hnew.out⟩
      rw [← hl2]
      exact ho
set_option maxRecDepth 100000 in
set_option maxHeartbeats 4000000 in
theorem delivered21 {w : World} {p : Nat} {X : Nat → Prop} {J : Int → Option Dt} {a h : Int} {n : Nat} (hw : Wn w p X J a h n) (hh : h ≤ 1000000) (s : Int) : Calls Try.prog 17 #[.pointer (some ⟨p, 0, none⟩), .int .i64 s] w fun e w' => ∃ (t : Nat) (u : Value), e = .returned (.tuple #[.int .i64 (t : Int), u, .bool true]) ∧ Cr.Own w' u ((dl J 0 t).map (·.n)) ∧ (t : Int) ≤ a ∧ Mod (fun _ => False) w w' ∧ (∀ g, u.ownBlock = some g → w.heap.size ≤ g) := by
  have HW : Hid (Wn w p X J a h n) := hw
  have HH : Hid (h ≤ 1000000) := hh
  clear hw hh
  go_enter Try.func17, Try.ntmps17
  go_wp2_with (fail)
  refine (oNew _).mono ?_
  rintro e w1 ⟨q, rfl, hq, hqn, hm1⟩
  have hX := HW.out.mem.lt
  have HNX := Next_w (HW.out.keep hm1) hq (fun hx => by have := hX q hx; omega) ⟨Int.le_refl _, HW.out.wp.aru.1⟩ HH.out s
  have HQN : Hid (w.heap.size ≤ q) := hqn
  have HM1 : Hid (Mod (fun _ => False) w w1) := hm1
  clear hX hq hqn hm1
  go_wp2_with (fail)
  refine HNX.mono ?_
  rintro e w2 ⟨v, ds, t, rfl, hN⟩
  have HNP : Hid (Np w1 w2 q J s 0 v ds t) := hN
  have HT : Hid ((t : Int) ≤ a) := by
    have := on_le HW.out.wp ⟨Int.le_refl _, HW.out.wp.aru.1⟩ hN.nx.on
    show _ ≤ _
    omega
  have HD : Hid (ds.map (·.1.n) = (dl J 0 t).map (·.n)) := by
    show _ = _
    rw [← hN.map, List.map_map]
    rfl
  have HM2 : Hid (Mod (fun _ => False) w w2) := HM1.out.trans hN.mod (V := fun _ => False) (fun _ _ h => h) (fun i hi e => by have := HQN.out; omega)
  have hdl : ds.length ≤ 1000000 := by
    have h1 := congrArg List.length hN.map
    have h2 := dl_len J 0 t
    have h3 := HW.out.wp.a_le
    have h4 := HT.out
    have h5 := HH.out
    simp at h1
    omega
  have HDL : Hid (ds.length ≤ 1000000) := hdl
  obtain ⟨av, cv, rfl⟩ := hN.row.row.shape
  have HR : Hid (RG w2 44 18 (.slice av ds.length cv) ds.length (fd ds)) := hN.row.row
  clear hN hdl HNX
  go_wp2_with (fail)
  go_loopw [10, 11] (fun u i wr => ∃ (j : Nat), i = .int .i64 (j : Int) ∧ j ≤ ds.length ∧ Cr.Own wr u ((ds.take j).map (·.1.n)) ∧ Mod (fun _ => False) w2 wr ∧ Hid (∀ g, u.ownBlock = some g → w2.heap.size ≤ g)) (fun _ i _ => ds.length - (intOf i).toNat)
  case atStart => exact ⟨0, rfl, Nat.zero_le _, by simpa using Cr.Own.nil _, Mod.refl _ _, by intro g hg; simp [Value.ownBlock] at hg⟩
  case round =>
    obtain ⟨j, rfl, hj, ho, hMr, hnew⟩ := hrel
    by_cases hlt : j < ds.length
    · have hlt' : (j : Int) < (ds.length : Int) := by omega
      obtain ⟨x, hx⟩ : ∃ x, ds[j]? = some x := ⟨ds[j], List.getElem?_eq_getElem hlt⟩
      obtain ⟨gb, of, cp, e, hrg⟩ := (HR.out.mod hMr (fun _ _ h => h)).range (by omega)
      cases e
      have c2 : wr.cell? ⟨gb, of + j * 18 + 2, none⟩ = some (.int .i64 x.1.n) := by
        have := hrg (j * 18 + 2) _ (fd_get ds j x hx 2 (.int .i64 x.1.n) rfl)
        rwa [← Nat.add_assoc] at this
      obtain ⟨ao, cp2, rfl⟩ := ho.shape
      have HT : Hid ((ds.take (j + 1)).map (·.1.n) = (ds.take j).map (·.1.n) ++ [x.1.n]) := by
        show _ = _
        rw [List.take_add_one, hx, List.map_append]
        rfl
      have HL : Hid (((ds.take j).map (·.1.n)).length + 1 ≤ 1000000000000) := by have := HDL.out; show _ ≤ _; simp; omega
      have hb1 : (0 : Int) ≤ (j : Int) := by omega
      have hjb : (j : Int) + 1 ≤ 1000000 := by have := HDL.out; omega
      have HLT : Hid (j < ds.length) := hlt
      clear hrg hx
      generalize (ds.take j).map (·.1.n) = L at *
      generalize x.1.n = y at *
      go_wp2_with (at_builtin; refine wpList_app1 rfl _ _ rfl _ L y wr.heap.size rfl rfl (ho.mod ((Mod.refl (fun _ => False) wr).alloc _) (fun _ _ h => h)) (Bk.new wr #[.int .i64 y] 3).cellz HL.out ?_; intro v4 w4 ho4 hm4 hf4)
      have HN4 : Hid (∀ g, v4.ownBlock = some g → w2.heap.size ≤ g) := fun g hg => by
        rcases hf4 g hg with h1 | h1
        · exact hnew.out g h1
        · have := hMr.size; simp at h1; omega
      have HM4 : Hid (Mod (fun _ => False) w2 w4) := (hMr.alloc _).trans hm4 (fun _ _ h => h) (fun g hg e => by have := hnew.out g e; omega)
      clear hf4 hm4
      go_roundw
      case rel => exact ⟨j + 1, by go_num, HLT.out, by rw [HT.out]; exact ho4, HM4.out, HN4⟩
      case measure =>
        have := HLT.out
        simp [intOf]
        omega
    · have HE : Hid (j = ds.length) := by show _ = _; omega
      obtain ⟨ao, cp2, rfl⟩ := ho.shape
      have HOQ := HNP.out.ord.keep hMr
      have HDN := Done_w HOQ
      clear HOQ
      go_wp2_with (fail)
      refine HDN.mono ?_
      rintro e w9 ⟨rfl, rfl⟩
      go_wp2
      have hl2 : (ds.take j).map (·.1.n) = (dl J 0 t).map (·.n) := by rw [HE.out, List.take_length, HD.out]
      have hj2 : ((ds.take j).map (·.1.n)).length = j := by simp; omega
      rw [hj2] at ho hnew
      go_ret3
      refine ⟨t, _, rfl, by rw [← hl2]; exact ho, HT.out, HM2.out.and hMr, fun g hg => ?_⟩
      have h1 := hnew.out g hg
      have h2 := HM2.out.size
      omega
end Go.Proofs.Ytampdkbcijdpcaa
