/- Contract of a window's Above; rows of data. Conditions: as many data as a slice can have. -/
import Derived.Test.YtampdkbcijdpcaaYf
namespace Go.Proofs.Ytampdkbcijdpcaa
open Go.RowKit Go.Maps
/-- The cells of data, one behind the other. -/
def fd : List (Dt × Value) → List Value
  | [] => []
  | d :: r => dcl d.1 d.2 ++ fd r
theorem fd_len : ∀ ds, (fd ds).length = ds.length * 18
  | [] => rfl
  | d :: r => by rw [fd, List.length_append, fd_len r, dcl_len, List.length_cons]; omega
theorem fd_app : ∀ a b, fd (a ++ b) = fd a ++ fd b
  | [], _ => rfl
  | d :: r, b => by rw [List.cons_append, fd, fd, fd_app r b, List.append_assoc]
theorem dcl_lt {d : Dt} {v c : Value} {t : Nat} (h : (dcl d v)[t]? = some c) : t < 18 := by
  rcases Nat.lt_or_ge t 18 with h' | h'
  · exact h'
  · rw [List.getElem?_eq_none (by exact h')] at h; cases h
theorem fd_get : ∀ (ds : List (Dt × Value)) (i : Nat) (d : Dt × Value), ds[i]? = some d → ∀ t c, (dcl d.1 d.2)[t]? = some c → (fd ds)[i * 18 + t]? = some c
  | [], i, d, h => by simp at h
  | x :: r, 0, d, h => fun t c hc => by
    simp at h
    subst h
    rw [fd, List.getElem?_append_left (by have := dcl_lt hc; rw [dcl_len]; omega)]
    simpa using hc
  | x :: r, i + 1, d, h => fun t c hc => by
    rw [fd, List.getElem?_append_right (by rw [dcl_len]; omega), dcl_len, show (i + 1) * 18 + t - 18 = i * 18 + t by omega]
    exact fd_get r i d (by simpa using h) t c hc
theorem dcl_one (d : Dt) (ao : Option Addr) (n cap : Nat) : ∀ c ∈ dcl d (.slice ao n cap), c.oneCell' = true := fun c hc => by
  simp only [dcl, List.mem_cons, List.not_mem_nil, or_false] at hc
  rcases hc with rfl | rfl | rfl | rfl | rfl | rfl | rfl | rfl | rfl | rfl | rfl | rfl | rfl | rfl | rfl | rfl | rfl | rfl
  all_goals rfl
theorem infoDq : (Try.prog.info? 44).map (fun i => (i.zero, i.size, i.bytes)) = some (some (.agg #[.int .i64 0, .int .i64 0, .int .i64 0, .int .i64 0, .int .i64 0, .int .i64 0, .int .i64 0, .int .i64 0, .int .i64 0, .int .i64 0, .int .i64 0, .int .i64 0, .bool false, .int .i64 0, .int .i64 0, .int .i64 0, .int .i64 0, .slice none 0 0]), 18, 160) := by kernel_rfl
theorem elD : El 28 44 18 160 := ⟨Try.underlying28, by
  have h := infoDq
  cases hi : Try.prog.info? 44 with
  | none => rw [hi] at h; cases h
  | some i =>
    rw [hi] at h
    simp only [Option.map_some, Option.some.injEq, Prod.mk.injEq] at h
    exact ⟨i, _, rfl, h.1, h.2.1, h.2.2, rfl⟩⟩
/-- A row of data of the call's own, each with a body of the call's own, all new since b. -/
structure Rd18 (w : World) (b : Nat) (v : Value) (ds : List (Dt × Value)) : Prop where
  row : RG w 44 18 v ds.length (fd ds)
  new : ∀ g, v.ownBlock = some g → b ≤ g
  each : ∀ x ∈ ds, Own w x.2 x.1.m.body ∧ (∀ g, x.2.ownBlock = some g → b ≤ g) ∧ (∀ c ∈ x.1.m.body, 0 ≤ c ∧ c ≤ 255)
theorem Rd18.nil (w : World) (b : Nat) : Rd18 w b (.slice none 0 0) [] := ⟨RG.nil w _ _, by simp [Value.ownBlock], by simp⟩
theorem Rd18.mod {S : Nat → Prop} {w w' : World} {b : Nat} {v : Value} {ds : List (Dt × Value)} (h : Rd18 w b v ds) (hm : Mod S w w') (hS : ∀ g, b ≤ g → ¬ S g) : Rd18 w' b v ds :=
  ⟨h.row.mod hm (fun g hg => hS g (h.new g hg)), h.new, fun x hx => ⟨(h.each x hx).1.mod hm (fun g hg => hS g ((h.each x hx).2.1 g hg)), (h.each x hx).2⟩⟩
theorem Rd18.keep {w w' : World} {b : Nat} {v : Value} {ds : List (Dt × Value)} (h : Rd18 w b v ds) (hm : Mod (fun _ => False) w w') : Rd18 w' b v ds := h.mod hm (fun _ _ h => h)
theorem Rd18.base {w : World} {b b' : Nat} {v : Value} {ds : List (Dt × Value)} (h : Rd18 w b v ds) (hb : b' ≤ b) : Rd18 w b' v ds := ⟨h.row, fun g hg => Nat.le_trans hb (h.new g hg), fun x hx => ⟨(h.each x hx).1, fun g hg => Nat.le_trans hb ((h.each x hx).2.1 g hg), (h.each x hx).2.2⟩⟩
/-- One more. -/
theorem Rd18.more {w w' : World} {b : Nat} {v v' u : Value} {ds : List (Dt × Value)} {d : Dt} (h : Rd18 w b v ds) (hm : Mod (fun k => v.ownBlock = some k) w w') (hr : RG w' 44 18 v' (ds.length + 1) (fd ds ++ dcl d u)) (hf : Fr w v v') (hb : b ≤ w.heap.size) (ho : Own w u d.m.body) (hu : ∀ g, u.ownBlock = some g → b ≤ g) (hc : ∀ c ∈ d.m.body, 0 ≤ c ∧ c ≤ 255) : Rd18 w' b v' (ds ++ [(d, u)]) := by
  have ne : ∀ x l, Own w x l → ∀ g, x.ownBlock = some g → ¬ v.ownBlock = some g := fun x l hx g hg e => by
    obtain ⟨c1, k1⟩ := h.row.kind e
    obtain ⟨c2, k2⟩ := hx.kind hg
    rw [k1] at k2
    simp at k2
  refine ⟨?_, fun g hg => ?_, fun x hx => ?_⟩
  · rw [List.length_append, fd_app, show fd [(d, u)] = dcl d u by simp [fd]]
    exact hr
  · rcases hf g hg with h1 | h1
    · exact h.new g h1
    · omega
  · rcases List.mem_append.1 hx with hx | hx
    · obtain ⟨a1, a2, a3⟩ := h.each x hx
      exact ⟨a1.mod hm (ne _ _ a1), a2, a3⟩
    · simp at hx
      subst hx
      exact ⟨ho.mod hm (ne _ _ ho), hu, hc⟩
set_option maxRecDepth 100000 in
set_option maxHeartbeats 4000000 in
theorem Above_w {w : World} {p : Nat} {X : Nat → Prop} {J : Int → Option Dt} {a h : Int} {n : Nat} (hw : Wn w p X J a h n) (hn : n ≤ 1000000) (s : Int) : Calls Try.prog 41 #[.pointer (some ⟨p, 0, none⟩), .int .i64 s] w fun e w' => ∃ v ds zs, e = .returned v ∧ Rd18 w' w.heap.size v ds ∧ Ks J s zs ∧ ds.map (·.1) = zs.map (fun k => (J k).getD d0) ∧ zs.length ≤ n ∧ Mod (fun _ => False) w w' := by
  have HW : Hid (Wn w p X J a h n) := hw
  obtain ⟨B, V, N, h1, _, _, _, _⟩ := hw.mem.blk
  have HN := isNone_w (h1.cellv (j := 0) rfl)
  have HNU := nums_w hw.mem hn s
  clear h1 hw
  go_enter Try.func41, Try.ntmps41
  go_wp2_with (first | (go_at_call 28; refine HN.mono ?_; rintro e w' ⟨rfl, rfl⟩))
  refine HNU.mono ?_
  rintro e w1 ⟨vz, zs, rfl, hoz, hks, hlz, hm1, hg1⟩
  obtain ⟨az, cz, rfl, hzc, hzm⟩ := hoz.rng
  have HKS : Hid (Ks J s zs) := hks
  have HG1 : Hid (∀ g, (Value.slice az zs.length cz).ownBlock = some g → w'.heap.size ≤ g) := hg1
  have HLZ : Hid (zs.length ≤ n) := hlz
  have HOZ : Hid (Cr.Own w1 (.slice az zs.length cz) zs) := hoz
  have HM1 : Hid (Mod (fun _ => False) w' w1) := hm1
  clear hks hg1 HNU HN hoz hm1 hlz
  go_wp2_with (fail)
  go_loopw [5, 14] (fun v i wr => ∃ (j : Nat) (ds : List (Dt × Value)), i = .int .i64 (j : Int) ∧ j ≤ zs.length ∧ Hid (ds.map (·.1) = (zs.take j).map (fun k => (J k).getD d0)) ∧ Rd18 wr w1.heap.size v ds ∧ Mod (fun _ => False) w1 wr) (fun _ i _ => zs.length - (intOf i).toNat)
  case atStart => exact ⟨0, [], rfl, Nat.zero_le _, by show _ = _; simp, Rd18.nil _ _, Mod.refl _ _⟩
  case round =>
    obtain ⟨j, ds, rfl, hj, hmap, hR, hMr⟩ := hrel
    obtain ⟨av, cv, rfl⟩ := hR.row.shape
    by_cases hlt : j < zs.length
    · have hlt' : (j : Int) < (zs.length : Int) := by omega
      have hlen : ds.length = j := by have := congrArg List.length hmap.out; simpa [Nat.min_eq_left hj] using this
      obtain ⟨x, hx⟩ : ∃ x, zs[j]? = some x := ⟨zs[j], List.getElem?_eq_getElem hlt⟩
      obtain ⟨az', cz', e, _, _, _, hcell⟩ := (HOZ.out.mod hMr (fun _ _ h => h)).sl
      cases e
      obtain ⟨bz, oz, rfl, hc⟩ := hcell (by intro e; rw [e] at hlt; simp at hlt)
      have hcj := hc j hlt
      rw [show zs.getD j 0 = x by simp [List.getD, hx]] at hcj
      obtain ⟨hxs, hxJ⟩ := (HKS.out.mem x).1 (List.mem_of_getElem? hx)
      obtain ⟨d, hd⟩ := Option.isSome_iff_exists.1 hxJ
      have HD : Hid (J x = some d) := hd
      have hWr := (HW.out.keep HM1.out).keep hMr
      obtain ⟨B, V, N, k1, k2, _, _, k5⟩ := hWr.mem.blk
      have c0 : wr.cell? ⟨p, 0, none⟩ = some (.map (some B)) := k1.cellv (j := 0) rfl
      have hL := k2.look (k2.i64 x hxJ)
      obtain ⟨ao, cap, hmv, hown⟩ := mv_at k5 x
      rw [hmv] at hL
      simp only [hd, Option.getD_some] at hL hown
      obtain ⟨-, -, -, hr, hb⟩ := hWr.wp.each x d hd
      have HC := clone_dt d _ wr (hown.sl hr) hb
      have HRNG : Hid (∀ c ∈ d.m.body, 0 ≤ c ∧ c ≤ 255) := hr
      have HX : Hid (zs[j]? = some x) := hx
      have HLEN : Hid (ds.length = j) := hlen
      have HLT : Hid (j < zs.length) := hlt
      clear hc hcell k1 k2 k5 hWr hd hmv hown hr hb hxJ hxs hx hlen
      have hb1 : (0 : Int) ≤ (j : Int) := by omega
      have hjb : (j : Int) + 1 ≤ 1000000 := by have := HLZ.out; omega
      go_wp2_with (fail)
      refine HC.mono ?_
      rintro e w2 ⟨v2, rfl, ho2, hm2, hg2⟩
      obtain ⟨a2, c2, rfl⟩ := ho2.shape
      have hA := (Mod.refl (fun _ => False) w2).alloc (.cells (dcl d (.slice a2 d.m.body.length c2)).toArray 44)
      have hR2 := (hR.keep hm2).keep hA
      have hSG := SG.lit w2 44 (dcl d (.slice a2 d.m.body.length c2)) (dcl_one d a2 _ c2)
      have hoA := ho2.mod hA (fun _ _ h => h)
      have hMA := (hMr.and hm2).and hA
      have HSZ : Hid (wr.heap.size ≤ w2.heap.size) := hm2.size
      have HSZ0 : Hid (w1.heap.size ≤ wr.heap.size) := hMr.size
      have HBND : Hid ((ds.length + 1) * 160 ≤ 140737488355328 ∧ ds.length + 1 ≤ 9223372036854775807) := by
        have := HLEN.out; have := HLZ.out
        constructor <;> omega
      have HG2 : Hid (∀ g, (Value.slice a2 d.m.body.length c2).ownBlock = some g → wr.heap.size ≤ g) := hg2
      clear HC hL c0 hcj ho2 hg2 hm2 hR hMr hA
      unfold dv
      unfold dcl at hSG
      go_wp2_with (at_builtin; refine wpList_appG elD rfl _ _ rfl _ _ ds.length 1 (fd ds) _ rfl rfl hR2.row hSG HBND.out.1 HBND.out.2 (ds.length + 1) rfl ?_; intro ax cx w4 hRG4 hm4 hf4)
      have HR4 := hR2.more hm4 hRG4 hf4 (by have := HSZ.out; have := HSZ0.out; simp; omega) hoA (fun g hg => Nat.le_trans HSZ0.out (HG2.out g hg)) HRNG.out
      have HM4 : Hid (Mod (fun _ => False) w1 w4) := hMA.trans hm4 (fun _ _ h => h) (fun g hg e => by have := hR2.new g e; omega)
      have HMAP : Hid ((ds ++ [(d, Value.slice a2 d.m.body.length c2)]).map (·.1) = (zs.take (j + 1)).map (fun k => (J k).getD d0)) := by
        show _ = _
        rw [List.map_append, hmap.out, List.take_add_one, HX.out, List.map_append]
        simp [HD.out]
      have HR5 : Hid (Rd18 w4 _ _ _) := HR4
      clear HR4 hm4 hf4 hRG4 hMA hR2 hoA hSG
      go_roundw
      case rel => exact ⟨j + 1, _, by go_num, HLT.out, HMAP, HR5.out, HM4.out⟩
      case measure =>
        have := HLT.out
        simp [intOf]
        omega
    · have e : j = zs.length := by omega
      have HE : Hid (j = zs.length) := e
      clear e
      go_wp2
      go_ret
      exact ⟨_, ds, zs, rfl, hR.base HM1.out.size, HKS.out, by rw [hmap.out, HE.out, List.take_length], HLZ.out, HM1.out.and hMr⟩
end Go.Proofs.Ytampdkbcijdpcaa
