/- Contract of the laws' datas, of two rows of the same data. Conditions: as many data as a slice can have. -/
import Derived.Test.YtejlcoakencdiaaYw
namespace Go.Proofs.Ytejlcoakencdiaa
open Go.RowKit Go.Maps
theorem mixedD : Try.prog.follows .mixedOrders = true := by kernel_rfl
def vD (sx sy px py dx dy : Value) (j : Int) : Nat → Value
  | 0 => sx
  | 1 => .int .i64 j
  | 2 => px
  | 3 => dx
  | 4 => sy
  | 5 => .int .i64 j
  | 6 => py
  | 7 => dy
  | 8 => .bool true
  | 9 => .bool false
  | _ => undef
set_option maxRecDepth 100000 in
set_option maxHeartbeats 4000000 in
theorem regionD {ops : Array Oper} {id : Nat} {a0 : Act} {w0 : World} {Q : Exit → Act → World → Prop} (ga oa gb ob n ca cb j : Nat) (d : Dt) (ux uy : Value)
    (E0 : Is ops 0 (some 17) (Op.move (Operand.tmp 0)) none [])
    (E1 : Is ops 1 (some 18) (Op.move (Operand.tmp 5)) none [])
    (E2 : Is ops 2 (some 19) (Op.indexAddr 46 (Operand.tmp 17) (Operand.tmp 18)) none [0, 1])
    (E3 : Is ops 3 (some 20) (Op.load 35 (Operand.tmp 19)) none [2])
    (E4 : Is ops 4 (some 21) (Op.move (Operand.tmp 1)) none [])
    (E5 : Is ops 5 (some 22) (Op.move (Operand.tmp 5)) none [])
    (E6 : Is ops 6 (some 23) (Op.indexAddr 46 (Operand.tmp 21) (Operand.tmp 22)) none [4, 5])
    (E7 : Is ops 7 (some 24) (Op.load 35 (Operand.tmp 23)) none [6])
    (E8 : Is ops 8 (some 25) (Op.call { callee := Callee.value (Operand.func 14), args := #[Operand.tmp 20, Operand.tmp 24], argTypes := #[35, 35] }) none [3, 7])
    (E9 : Is ops 9 (some 26) (Op.unOp UnOp.not 4 (Operand.tmp 25)) none [8])
    (hN : ops.size = 10) (hlow : lowB ops = true) (hds : dsts ops = [some 17, some 18, some 19, some 20, some 21, some 22, some 23, some 24, some 25, some 26]) (hnd : injB ops = true)
    (ha0 : a0.tmps.size = 27) (h0 : a0.tmps.getD 0 undef = .slice (some ⟨ga, oa, none⟩) n ca) (h1 : a0.tmps.getD 1 undef = .slice (some ⟨gb, ob, none⟩) n cb) (h5 : a0.tmps.getD 5 undef = .int .i64 (j : Int)) (hj : j < n)
    (hrx : w0.rangeAt ga (oa + j * 18) (dcl d ux)) (hry : w0.rangeAt gb (ob + j * 18) (dcl d uy)) (HS : ∀ W, Mod (fun _ => False) w0.drew W → Calls Try.prog 14 #[dv d ux, dv d uy] W fun e w' => e = .returned (.bool true) ∧ Mod (fun _ => False) W w')
    (hend : ∀ y w, (∀ t, t < 17 → y.tmps.getD t undef = a0.tmps.getD t undef) → y.tmps.getD 26 undef = .bool false → y.tmps.size = 27 → y.defers = a0.defers → Mod (fun _ => False) w0 w → Q .normal y w) :
    (Code.region id ops true).wp Try.prog Q a0 w0 := by
  have idx : ∀ (g o c : Nat) (W : World), (Instr.indexAt 46 (.slice (some ⟨g, o, none⟩) n c) (.int .i64 (j : Int))).run Try.prog W = .ok (.pointer (some ⟨g, o + j * 18, none⟩)) W := fun g o c W => by
    have hj' : (j : Int) < (n : Int) := by omega
    have hj0 : (0 : Int) ≤ (j : Int) := by omega
    simp [go_sem, hj', hj0]
  have s0 : ∀ o, ops[0]? = some o → Step Try.prog ops (fun i' v => v = vD (.slice (some ⟨ga, oa, none⟩) n ca) (.slice (some ⟨gb, ob, none⟩) n cb) (.pointer (some ⟨ga, oa + j * 18, none⟩)) (.pointer (some ⟨gb, ob + j * 18, none⟩)) (dv d ux) (dv d uy) (j : Int) i') (fun _ W => Mod (fun _ => False) w0.drew W) a0 Q 0 o := by
    refine E0.step fun o hd ho hg hw => ?_
    intro y w listed hsz hls hun hwt hdown D' R hinv K hK
    refine .inl ⟨wanted_none hg, ?_⟩
    have fx : y.eval (Operand.tmp 0) = _ := (R 0 (not_of (by rw [hds]; decide))).trans h0
    exact wp_value (ox_move ho fx) (hK _ _ rfl hinv)
  have s1 : ∀ o, ops[1]? = some o → Step Try.prog ops (fun i' v => v = vD (.slice (some ⟨ga, oa, none⟩) n ca) (.slice (some ⟨gb, ob, none⟩) n cb) (.pointer (some ⟨ga, oa + j * 18, none⟩)) (.pointer (some ⟨gb, ob + j * 18, none⟩)) (dv d ux) (dv d uy) (j : Int) i') (fun _ W => Mod (fun _ => False) w0.drew W) a0 Q 1 o := by
    refine E1.step fun o hd ho hg hw => ?_
    intro y w listed hsz hls hun hwt hdown D' R hinv K hK
    refine .inl ⟨wanted_none hg, ?_⟩
    have fx : y.eval (Operand.tmp 5) = _ := (R 5 (not_of (by rw [hds]; decide))).trans h5
    exact wp_value (ox_move ho fx) (hK _ _ rfl hinv)
  have s2 : ∀ o, ops[2]? = some o → Step Try.prog ops (fun i' v => v = vD (.slice (some ⟨ga, oa, none⟩) n ca) (.slice (some ⟨gb, ob, none⟩) n cb) (.pointer (some ⟨ga, oa + j * 18, none⟩)) (.pointer (some ⟨gb, ob + j * 18, none⟩)) (dv d ux) (dv d uy) (j : Int) i') (fun _ W => Mod (fun _ => False) w0.drew W) a0 Q 2 o := by
    refine E2.step fun o hd ho hg hw => ?_
    intro y w listed hsz hls hun hwt hdown D' R hinv K hK
    refine .inl ⟨wanted_none hg, ?_⟩
    have fx : y.eval (Operand.tmp 17) = .slice (some ⟨ga, oa, none⟩) n ca := E0.post (Post := (fun i' v => v = vD (.slice (some ⟨ga, oa, none⟩) n ca) (.slice (some ⟨gb, ob, none⟩) n cb) (.pointer (some ⟨ga, oa + j * 18, none⟩)) (.pointer (some ⟨gb, ob + j * 18, none⟩)) (dv d ux) (dv d uy) (j : Int) i')) (a := y) D' (hw 0 (by simp))
    have fy : y.eval (Operand.tmp 18) = .int .i64 (j : Int) := E1.post (Post := (fun i' v => v = vD (.slice (some ⟨ga, oa, none⟩) n ca) (.slice (some ⟨gb, ob, none⟩) n cb) (.pointer (some ⟨ga, oa + j * 18, none⟩)) (.pointer (some ⟨gb, ob + j * 18, none⟩)) (dv d ux) (dv d uy) (j : Int) i')) (a := y) D' (hw 1 (by simp))
    exact wp_value (ox_index ho fx fy (idx ga oa ca w)) (hK _ _ rfl hinv)
  have s3 : ∀ o, ops[3]? = some o → Step Try.prog ops (fun i' v => v = vD (.slice (some ⟨ga, oa, none⟩) n ca) (.slice (some ⟨gb, ob, none⟩) n cb) (.pointer (some ⟨ga, oa + j * 18, none⟩)) (.pointer (some ⟨gb, ob + j * 18, none⟩)) (dv d ux) (dv d uy) (j : Int) i') (fun _ W => Mod (fun _ => False) w0.drew W) a0 Q 3 o := by
    refine E3.step fun o hd ho hg hw => ?_
    intro y w listed hsz hls hun hwt hdown D' R hinv K hK
    refine .inl ⟨wanted_none hg, ?_⟩
    have fx : y.eval (Operand.tmp 19) = .pointer (some ⟨ga, oa + j * 18, none⟩) := E2.post (Post := (fun i' v => v = vD (.slice (some ⟨ga, oa, none⟩) n ca) (.slice (some ⟨gb, ob, none⟩) n cb) (.pointer (some ⟨ga, oa + j * 18, none⟩)) (.pointer (some ⟨gb, ob + j * 18, none⟩)) (dv d ux) (dv d uy) (j : Int) i')) (a := y) D' (hw 2 (by simp))
    refine wp_load_mid (P := Try.prog) 35 _ ho ga (oa + j * 18) fx (dcl d ux) _ (fun t c ht => hinv.cell ((Mod.refl (fun _ => False) w0).drew.cell (hrx t c ht) (fun h => h)) (fun h => h)) Try.underlying35 rfl (by rw [info18]; rfl) (hK _ _ rfl hinv)
  have s4 : ∀ o, ops[4]? = some o → Step Try.prog ops (fun i' v => v = vD (.slice (some ⟨ga, oa, none⟩) n ca) (.slice (some ⟨gb, ob, none⟩) n cb) (.pointer (some ⟨ga, oa + j * 18, none⟩)) (.pointer (some ⟨gb, ob + j * 18, none⟩)) (dv d ux) (dv d uy) (j : Int) i') (fun _ W => Mod (fun _ => False) w0.drew W) a0 Q 4 o := by
    refine E4.step fun o hd ho hg hw => ?_
    intro y w listed hsz hls hun hwt hdown D' R hinv K hK
    refine .inl ⟨wanted_none hg, ?_⟩
    have fx : y.eval (Operand.tmp 1) = _ := (R 1 (not_of (by rw [hds]; decide))).trans h1
    exact wp_value (ox_move ho fx) (hK _ _ rfl hinv)
  have s5 : ∀ o, ops[5]? = some o → Step Try.prog ops (fun i' v => v = vD (.slice (some ⟨ga, oa, none⟩) n ca) (.slice (some ⟨gb, ob, none⟩) n cb) (.pointer (some ⟨ga, oa + j * 18, none⟩)) (.pointer (some ⟨gb, ob + j * 18, none⟩)) (dv d ux) (dv d uy) (j : Int) i') (fun _ W => Mod (fun _ => False) w0.drew W) a0 Q 5 o := by
    refine E5.step fun o hd ho hg hw => ?_
    intro y w listed hsz hls hun hwt hdown D' R hinv K hK
    refine .inl ⟨wanted_none hg, ?_⟩
    have fx : y.eval (Operand.tmp 5) = _ := (R 5 (not_of (by rw [hds]; decide))).trans h5
    exact wp_value (ox_move ho fx) (hK _ _ rfl hinv)
  have s6 : ∀ o, ops[6]? = some o → Step Try.prog ops (fun i' v => v = vD (.slice (some ⟨ga, oa, none⟩) n ca) (.slice (some ⟨gb, ob, none⟩) n cb) (.pointer (some ⟨ga, oa + j * 18, none⟩)) (.pointer (some ⟨gb, ob + j * 18, none⟩)) (dv d ux) (dv d uy) (j : Int) i') (fun _ W => Mod (fun _ => False) w0.drew W) a0 Q 6 o := by
    refine E6.step fun o hd ho hg hw => ?_
    intro y w listed hsz hls hun hwt hdown D' R hinv K hK
    refine .inl ⟨wanted_none hg, ?_⟩
    have fx : y.eval (Operand.tmp 21) = .slice (some ⟨gb, ob, none⟩) n cb := E4.post (Post := (fun i' v => v = vD (.slice (some ⟨ga, oa, none⟩) n ca) (.slice (some ⟨gb, ob, none⟩) n cb) (.pointer (some ⟨ga, oa + j * 18, none⟩)) (.pointer (some ⟨gb, ob + j * 18, none⟩)) (dv d ux) (dv d uy) (j : Int) i')) (a := y) D' (hw 4 (by simp))
    have fy : y.eval (Operand.tmp 22) = .int .i64 (j : Int) := E5.post (Post := (fun i' v => v = vD (.slice (some ⟨ga, oa, none⟩) n ca) (.slice (some ⟨gb, ob, none⟩) n cb) (.pointer (some ⟨ga, oa + j * 18, none⟩)) (.pointer (some ⟨gb, ob + j * 18, none⟩)) (dv d ux) (dv d uy) (j : Int) i')) (a := y) D' (hw 5 (by simp))
    exact wp_value (ox_index ho fx fy (idx gb ob cb w)) (hK _ _ rfl hinv)
  have s7 : ∀ o, ops[7]? = some o → Step Try.prog ops (fun i' v => v = vD (.slice (some ⟨ga, oa, none⟩) n ca) (.slice (some ⟨gb, ob, none⟩) n cb) (.pointer (some ⟨ga, oa + j * 18, none⟩)) (.pointer (some ⟨gb, ob + j * 18, none⟩)) (dv d ux) (dv d uy) (j : Int) i') (fun _ W => Mod (fun _ => False) w0.drew W) a0 Q 7 o := by
    refine E7.step fun o hd ho hg hw => ?_
    intro y w listed hsz hls hun hwt hdown D' R hinv K hK
    refine .inl ⟨wanted_none hg, ?_⟩
    have fx : y.eval (Operand.tmp 23) = .pointer (some ⟨gb, ob + j * 18, none⟩) := E6.post (Post := (fun i' v => v = vD (.slice (some ⟨ga, oa, none⟩) n ca) (.slice (some ⟨gb, ob, none⟩) n cb) (.pointer (some ⟨ga, oa + j * 18, none⟩)) (.pointer (some ⟨gb, ob + j * 18, none⟩)) (dv d ux) (dv d uy) (j : Int) i')) (a := y) D' (hw 6 (by simp))
    refine wp_load_mid (P := Try.prog) 35 _ ho gb (ob + j * 18) fx (dcl d uy) _ (fun t c ht => hinv.cell ((Mod.refl (fun _ => False) w0).drew.cell (hry t c ht) (fun h => h)) (fun h => h)) Try.underlying35 rfl (by rw [info18]; rfl) (hK _ _ rfl hinv)
  have s8 : ∀ o, ops[8]? = some o → Step Try.prog ops (fun i' v => v = vD (.slice (some ⟨ga, oa, none⟩) n ca) (.slice (some ⟨gb, ob, none⟩) n cb) (.pointer (some ⟨ga, oa + j * 18, none⟩)) (.pointer (some ⟨gb, ob + j * 18, none⟩)) (dv d ux) (dv d uy) (j : Int) i') (fun _ W => Mod (fun _ => False) w0.drew W) a0 Q 8 o := by
    refine E8.step fun o hd ho hg hw => ?_
    intro y w listed hsz hls hun hwt hdown D' R hinv K hK
    refine .inl ⟨wanted_none hg, ?_⟩
    have fx : y.eval (Operand.tmp 20) = dv d ux := E3.post (Post := (fun i' v => v = vD (.slice (some ⟨ga, oa, none⟩) n ca) (.slice (some ⟨gb, ob, none⟩) n cb) (.pointer (some ⟨ga, oa + j * 18, none⟩)) (.pointer (some ⟨gb, ob + j * 18, none⟩)) (dv d ux) (dv d uy) (j : Int) i')) (a := y) D' (hw 3 (by simp))
    have fy : y.eval (Operand.tmp 24) = dv d uy := E7.post (Post := (fun i' v => v = vD (.slice (some ⟨ga, oa, none⟩) n ca) (.slice (some ⟨gb, ob, none⟩) n cb) (.pointer (some ⟨ga, oa + j * 18, none⟩)) (.pointer (some ⟨gb, ob + j * 18, none⟩)) (dv d ux) (dv d uy) (j : Int) i')) (a := y) D' (hw 7 (by simp))
    refine wp_enter (by rw [exec_call2 y.eval (fun args w => by simp [go_sem]) rfl ho, fx, fy]) (HS w hinv) ?_
    rintro e w' ⟨rfl, hm⟩
    exact ⟨_, rfl, hK _ _ rfl (hinv.and hm)⟩
  have s9 : ∀ o, ops[9]? = some o → Step Try.prog ops (fun i' v => v = vD (.slice (some ⟨ga, oa, none⟩) n ca) (.slice (some ⟨gb, ob, none⟩) n cb) (.pointer (some ⟨ga, oa + j * 18, none⟩)) (.pointer (some ⟨gb, ob + j * 18, none⟩)) (dv d ux) (dv d uy) (j : Int) i') (fun _ W => Mod (fun _ => False) w0.drew W) a0 Q 9 o := by
    refine E9.step fun o hd ho hg hw => ?_
    intro y w listed hsz hls hun hwt hdown D' R hinv K hK
    refine .inl ⟨wanted_none hg, ?_⟩
    have fx : y.eval (Operand.tmp 25) = .bool true := E8.post (Post := (fun i' v => v = vD (.slice (some ⟨ga, oa, none⟩) n ca) (.slice (some ⟨gb, ob, none⟩) n cb) (.pointer (some ⟨ga, oa + j * 18, none⟩)) (.pointer (some ⟨gb, ob + j * 18, none⟩)) (dv d ux) (dv d uy) (j : Int) i')) (a := y) D' (hw 8 (by simp))
    exact wp_value (ox_not ho fx) (hK _ _ rfl hinv)
  refine region_free (Post := (fun i' v => v = vD (.slice (some ⟨ga, oa, none⟩) n ca) (.slice (some ⟨gb, ob, none⟩) n cb) (.pointer (some ⟨ga, oa + j * 18, none⟩)) (.pointer (some ⟨gb, ob + j * 18, none⟩)) (dv d ux) (dv d uy) (j : Int) i')) (Inv := (fun _ W => Mod (fun _ => False) w0.drew W)) mixedD (low_of hlow) (fun i o ho => by rw [ha0]; exact dst_of (by rw [hds]; decide) i o ho) (inj_of hnd) (Mod.refl _ _) ?_ ?_
  · intro i o ho
    have hi : i < 10 := by
      rw [← hN]
      rcases Nat.lt_or_ge i ops.size with h | h
      · exact h
      · rw [Array.getElem?_eq_none h] at ho; cases ho
    clear hend
    by_cases e0 : i = 0
    · subst e0; exact s0 o ho
    by_cases e1 : i = 1
    · subst e1; exact s1 o ho
    by_cases e2 : i = 2
    · subst e2; exact s2 o ho
    by_cases e3 : i = 3
    · subst e3; exact s3 o ho
    by_cases e4 : i = 4
    · subst e4; exact s4 o ho
    by_cases e5 : i = 5
    · subst e5; exact s5 o ho
    by_cases e6 : i = 6
    · subst e6; exact s6 o ho
    by_cases e7 : i = 7
    · subst e7; exact s7 o ho
    by_cases e8 : i = 8
    · subst e8; exact s8 o ho
    by_cases e9 : i = 9
    · subst e9; exact s9 o ho
    omega
  · intro y w listed hsz hdf hls hall hinv hp' hr
    obtain ⟨o9, h91, h92, _⟩ := E9.ex
    exact hend y w (fun t ht => by
      have h17 : t = 0 ∨ t = 1 ∨ t = 2 ∨ t = 3 ∨ t = 4 ∨ t = 5 ∨ t = 6 ∨ t = 7 ∨ t = 8 ∨ t = 9 ∨ t = 10 ∨ t = 11 ∨ t = 12 ∨ t = 13 ∨ t = 14 ∨ t = 15 ∨ t = 16 := by omega
      rcases h17 with rfl | rfl | rfl | rfl | rfl | rfl | rfl | rfl | rfl | rfl | rfl | rfl | rfl | rfl | rfl | rfl | rfl <;> exact hr _ (not_of (by rw [hds]; decide))) (hp' 9 o9 26 h91 h92) (by omega) hdf ((Mod.refl (fun _ => False) w0).drew.and hinv)
set_option maxRecDepth 100000 in
theorem frame27 {y : Act} (h : y.tmps.size = 27) : ∃ c0 c1 c2 c3 c4 c5 c6 c7 c8 c9 c10 c11 c12 c13 c14 c15 c16 c17 c18 c19 c20 c21 c22 c23 c24 c25 c26, y = ⟨#[c0, c1, c2, c3, c4, c5, c6, c7, c8, c9, c10, c11, c12, c13, c14, c15, c16, c17, c18, c19, c20, c21, c22, c23, c24, c25, c26], y.defers⟩ := by
  obtain ⟨⟨l⟩, df⟩ := y
  match l, h with
  | [c0, c1, c2, c3, c4, c5, c6, c7, c8, c9, c10, c11, c12, c13, c14, c15, c16, c17, c18, c19, c20, c21, c22, c23, c24, c25, c26], _ => exact ⟨c0, c1, c2, c3, c4, c5, c6, c7, c8, c9, c10, c11, c12, c13, c14, c15, c16, c17, c18, c19, c20, c21, c22, c23, c24, c25, c26, rfl⟩
theorem Rd18.cells {w : World} {b : Nat} {v : Value} {ds : List (Dt × Value)} (h : Rd18 w b v ds) (hn : 0 < ds.length) : ∃ g o c, v = .slice (some ⟨g, o, none⟩) ds.length c ∧ ∀ (t : Nat) (x : Dt × Value), ds[t]? = some x → ∀ j c, (dcl x.1 x.2)[j]? = some c → w.cell? ⟨g, o + t * 18 + j, none⟩ = some c := by
  obtain ⟨g, o, c, e, hr⟩ := h.row.range hn
  refine ⟨g, o, c, e, fun t x hx j c hj => ?_⟩
  have := hr (t * 18 + j) c (fd_get ds t x hx j c hj)
  rwa [← Nat.add_assoc] at this
set_option maxRecDepth 100000 in
set_option maxHeartbeats 8000000 in
theorem datas_eq (v u : Value) (os qs : List (Dt × Value)) (w : World) (b b' : Nat) (hv : Rd18 w b v os) (hu : Rd18 w b' u qs) (hm : os.map (·.1) = qs.map (·.1)) (hl : os.length ≤ 1000000) : Calls Try.prog 25 #[v, u] w fun e w' => e = .returned (.bool true) ∧ Mod (fun _ => False) w w' := by
  have hlen : os.length = qs.length := by have := congrArg List.length hm; simpa using this
  have HV : Hid (Rd18 w b v os) := hv
  have HU : Hid (Rd18 w b' u qs) := hu
  have HM : Hid (os.map (·.1) = qs.map (·.1)) := hm
  have HLN : Hid (os.length = qs.length) := hlen
  obtain ⟨av, cv, rfl⟩ := hv.row.shape
  obtain ⟨au, cu, rfl⟩ := hu.row.shape
  rw [← hlen]
  clear hv hu hm hlen
  go_enter Try.func25, Try.ntmps25
  go_wp2_with (fail)
  go_loopw [5] (fun i wr => ∃ (j : Nat), i = .int .i64 (j : Int) ∧ j ≤ os.length ∧ Mod (fun _ => False) w wr) (fun i _ => os.length - (intOf i).toNat)
  case atStart => exact ⟨0, rfl, Nat.zero_le _, Mod.refl _ _⟩
  case round =>
    obtain ⟨j, rfl, hj, hMr⟩ := hrel
    by_cases hlt : j < os.length
    · have hlt' : (j : Int) < (os.length : Int) := by omega
      have hb1 : (0 : Int) ≤ (j : Int) := by omega
      have hjb : (j : Int) + 1 ≤ 1000000 := by omega
      have HLT : Hid (j < os.length) := hlt
      obtain ⟨ga, oa, ca, e1, hcx⟩ := (HV.out.keep hMr).cells (by omega)
      cases e1
      obtain ⟨gb, ob, cb, e2, hcy⟩ := (HU.out.keep hMr).cells (by have := HLN.out; omega)
      simp only [Value.slice.injEq] at e2
      obtain ⟨rfl, -, rfl⟩ := e2
      obtain ⟨x, hx⟩ : ∃ x, os[j]? = some x := ⟨os[j], List.getElem?_eq_getElem hlt⟩
      obtain ⟨y, hy⟩ : ∃ y, qs[j]? = some y := ⟨qs[j]'(by have := HLN.out; omega), List.getElem?_eq_getElem (by have := HLN.out; omega)⟩
      have hxy : x.1 = y.1 := by
        have := congrArg (fun l => l[j]?) HM.out
        simp only [List.getElem?_map, hx, hy, Option.map_some, Option.some.injEq] at this
        exact this
      obtain ⟨xo, -, xr⟩ := (HV.out.keep hMr).each x (List.mem_of_getElem? hx)
      obtain ⟨yo, -, yr⟩ := (HU.out.keep hMr).each y (List.mem_of_getElem? hy)
      have hx0 := hcx j x hx
      have hy0 := hcy j y hy
      obtain ⟨d, ux⟩ := x
      obtain ⟨d', uy⟩ := y
      replace hxy : d = d' := hxy
      subst hxy
      replace xo : Own wr ux d.m.body := xo
      replace yo : Own wr uy d.m.body := yo
      obtain ⟨ax, cx, rfl⟩ := xo.shape
      obtain ⟨ay, cy, rfl⟩ := yo.shape
      have hdr := (Mod.refl (fun _ => False) wr).drew
      have HS : ∀ W, Mod (fun _ => False) wr.drew W → Calls Try.prog 14 #[dv d (.slice ax d.m.body.length cx), dv d (.slice ay d.m.body.length cy)] W fun e w' => e = .returned (.bool true) ∧ Mod (fun _ => False) W w' := fun W hW => SameData_eq d.q d.r d.n d.s d.t d.m.kind d.m.origin d.m.life d.m.id d.m.part d.m.parts d.m.groups d.m.safe d.m.st d.m.rs d.m.rr d.m.sq ax ay cx cy d.m.body W (((xo.mod hdr (fun _ _ h => h)).mod hW (fun _ _ h => h)).sl xr) (((yo.mod hdr (fun _ _ h => h)).mod hW (fun _ _ h => h)).sl yr)
      have hp : ∀ j' c, (dcl d (.slice ax d.m.body.length cx))[j']? = some c → wr.cell? ⟨ga, oa + j * 18 + j', none⟩ = some c := hx0
      have hq : ∀ j' c, (dcl d (.slice ay d.m.body.length cy))[j']? = some c → wr.cell? ⟨gb, ob + j * 18 + j', none⟩ = some c := hy0
      have HRX : Hid (wr.rangeAt ga (oa + j * 18) (dcl d (.slice ax d.m.body.length cx))) := fun t c ht => hp t c ht
      have HRY : Hid (wr.rangeAt gb (ob + j * 18) (dcl d (.slice ay d.m.body.length cy))) := fun t c ht => hq t c ht
      have HSH : Hid (∀ W, Mod (fun _ => False) wr.drew W → Calls Try.prog 14 #[dv d (.slice ax d.m.body.length cx), dv d (.slice ay d.m.body.length cy)] W fun e w' => e = .returned (.bool true) ∧ Mod (fun _ => False) W w') := HS
      clear HS
      have HMR : Hid (Mod (fun _ => False) w wr) := hMr
      clear hp hq hx0 hy0 hx hy hcx hcy xo yo xr yr hMr hdr hl hj hlt
      go_wp2_with (fail)
      go_cut [26] (fun v wx => v = .bool false ∧ Mod (fun _ => False) wr wx)
      case first =>
        clear hjb HV HU HM HLN HMR
        refine regionD ga oa gb ob os.length _ _ j d (.slice ax d.m.body.length cx) (.slice ay d.m.body.length cy) ⟨⟨_, rfl, rfl, rfl, rfl, by decide +kernel⟩⟩ ⟨⟨_, rfl, rfl, rfl, rfl, by decide +kernel⟩⟩ ⟨⟨_, rfl, rfl, rfl, rfl, by decide +kernel⟩⟩ ⟨⟨_, rfl, rfl, rfl, rfl, by decide +kernel⟩⟩ ⟨⟨_, rfl, rfl, rfl, rfl, by decide +kernel⟩⟩ ⟨⟨_, rfl, rfl, rfl, rfl, by decide +kernel⟩⟩ ⟨⟨_, rfl, rfl, rfl, rfl, by decide +kernel⟩⟩ ⟨⟨_, rfl, rfl, rfl, rfl, by decide +kernel⟩⟩ ⟨⟨_, rfl, rfl, rfl, rfl, by decide +kernel⟩⟩ ⟨⟨_, rfl, rfl, rfl, rfl, by decide +kernel⟩⟩ rfl (by decide +kernel) rfl (by decide +kernel) rfl rfl rfl rfl HLT.out HRX.out HRY.out HSH.out ?_
        intro y wy hlow hv26 hsz27 hdf hmy
        obtain ⟨c0, c1, c2, c3, c4, c5, c6, c7, c8, c9, c10, c11, c12, c13, c14, c15, c16, c17, c18, c19, c20, c21, c22, c23, c24, c25, c26, ey⟩ := frame27 hsz27
        rw [hdf] at ey
        subst ey
        clear hsz27 hdf
        have e0 : c0 = .slice (some ⟨ga, oa, none⟩) os.length cv := hlow 0 (by decide)
        subst e0
        have e1 : c1 = .slice (some ⟨gb, ob, none⟩) os.length cu := hlow 1 (by decide)
        subst e1
        have e2 : c2 = undef := hlow 2 (by decide)
        subst e2
        have e3 : c3 = undef := hlow 3 (by decide)
        subst e3
        have e4 : c4 = u4 := hlow 4 (by decide)
        subst e4
        have e5 : c5 = .int .i64 (j : Int) := hlow 5 (by decide)
        subst e5
        have e6 : c6 = .slice (some ⟨ga, oa, none⟩) os.length cv := hlow 6 (by decide)
        subst e6
        have e7 : c7 = .int .i64 (os.length : Int) := hlow 7 (by decide)
        subst e7
        have e8 : c8 = .slice (some ⟨gb, ob, none⟩) os.length cu := hlow 8 (by decide)
        subst e8
        have e9 : c9 = .int .i64 (os.length : Int) := hlow 9 (by decide)
        subst e9
        have e10 : c10 = .bool false := hlow 10 (by decide)
        subst e10
        have e11 : c11 = .int .i64 (j : Int) := hlow 11 (by decide)
        subst e11
        have e12 : c12 = .slice (some ⟨ga, oa, none⟩) os.length cv := hlow 12 (by decide)
        subst e12
        have e13 : c13 = .int .i64 (os.length : Int) := hlow 13 (by decide)
        subst e13
        have e14 : c14 = .bool true := hlow 14 (by decide)
        subst e14
        have e15 : c15 = u15 := hlow 15 (by decide)
        subst e15
        have e16 : c16 = u16 := hlow 16 (by decide)
        subst e16
        replace hv26 : c26 = .bool false := hv26
        subst hv26
        clear hlow
        go_wp2
        go_meet
        exact ⟨rfl, hmy⟩
      case rest =>
      obtain ⟨rfl, hm9⟩ := hcut
      generalize wc = w9 at *
      have HM9 : Hid (Mod (fun _ => False) w w9) := HMR.out.and hm9
      go_wp2_with (fail)
      go_roundw
      case rel => exact ⟨j + 1, by go_num, HLT.out, HM9.out⟩
      case measure => have := HLT.out; simp [intOf]; omega
    · go_wp2_with (fail)
      go_ret
      exact ⟨rfl, hMr⟩
end Go.Proofs.Ytejlcoakencdiaa
