/- Regain's Take: what is taken of what others send. Conditions: sizes that a slice of bytes has; a window of less than 10^12 data. -/
import Derived.Test.YthiijonmnebjgaaMb
import Derived.Test.YthiijonmnebjgaaCi
namespace Go.Proofs.Ythiijonmnebjgaa
open Go.RowKit
theorem exR {o : Oper} {w : World} {ρ : Operand → Value} {x y : Operand} (ho : o.op = .binOp .neq 34 x y 34) {q r q' r' : Int} (hx : ρ x = .agg #[.int .i64 q, .int .i64 r]) (hy : ρ y = .agg #[.int .i64 q', .int .i64 r']) {b : Bool} (hb : (!(decide (q = q') && decide (r = r'))) = b) : (execOp ρ o).run Try.prog w = .ok (.value (.bool b)) w := by
  subst hb
  unfold execOp
  rw [ho]
  simp only [hx, hy]
  by_cases h2 : q = q' <;> by_cases h3 : r = r' <;> simp [go_sem, h2, h3]
/-- The data that a message was. -/
def inD (m : Ms) : Dt := ⟨m.rs, m.rr, m.sq, m.id, m.st, prM m.body⟩
/-- It is of that configuration. -/
def tkR (m : Ms) (oq oR : Int) : Bool := decide (m.rs = oq) && decide (m.rr = oR)
def tkY (m : Ms) (oq oR : Int) : Bool := inE m == 0 && tkR m oq oR
def tkB (J : Int → Option Dt) (m : Ms) (oq oR : Int) : Bool := tkY m oq oR && pF J (inD m)
def tkE (m : Ms) (oq oR : Int) : Int := if inE m ≠ 0 then inE m else if tkR m oq oR then pE (inD m) else 0
def tkJ (J : Int → Option Dt) (m : Ms) (oq oR : Int) : Int → Option Dt := if tkY m oq oR then pJ J (inD m) else J
def tkH (J : Int → Option Dt) (h : Int) (m : Ms) (oq oR : Int) : Int := if tkY m oq oR then pH J h (inD m) else h
theorem prM_rng {b : List Int} (hr : ∀ c ∈ b, 0 ≤ c ∧ c ≤ 255) (h : unE b = 0) : ∀ c ∈ (prM b).body, 0 ≤ c ∧ c ≤ 255 := fun c hc => by
  have e := (pk_un hr h).1
  refine hr c ?_
  rw [← e]
  unfold pk
  exact List.mem_append_right _ (List.mem_append_right _ (List.mem_append_right _ hc))
theorem inE_body {m : Ms} (hr : ∀ c ∈ m.body, 0 ≤ c ∧ c ≤ 255) (h : inE m = 0) : (prM m.body).body.length ≤ 140737488355328 ∧ ∀ c ∈ (prM m.body).body, 0 ≤ c ∧ c ≤ 255 := by
  unfold inE at h
  split at h
  · rename_i hh
    obtain ⟨h1, h2, h3⟩ := chk_parts hh.2
    rw [kd, if_pos hh.1, od] at h3
    simp only [Bool.and_eq_true] at h3
    have hu : unE m.body = 0 := by
      have := h3.2
      rw [in0_eq] at this
      simp only [Bool.and_eq_true, beq_iff_eq] at this
      exact this.1
    have := (chk_parts (pk_un hr hu).2).1
    exact ⟨by omega, prM_rng hr hu⟩
  · omega
theorem Wn.le {w : World} {p : Nat} {X : Nat → Prop} {J : Int → Option Dt} {a h : Int} {n n' : Nat} (hw : Wn w p X J a h n) (hn : n ≤ n') : Wn w p X J a h n' := by
  obtain ⟨⟨⟨B, V, N, h1, h2, h3, h4⟩, px, lt⟩, wp⟩ := hw
  exact ⟨⟨⟨B, V, N, h1, h2, Nat.le_trans h3 hn, h4⟩, px, lt⟩, wp⟩
theorem Gone.self (w : World) (X : Nat → Prop) : Gone w X X := fun _ h => .inl h
set_option maxRecDepth 100000 in
set_option maxHeartbeats 8000000 in
theorem Take_w {w : World} {p : Nat} {X : Nat → Prop} {J : Int → Option Dt} {a h : Int} {n : Nat} (hw : Wn w p X J a h n) (oq oR : Int) (m : Ms) (v : Value) (hs : Sl w v m.body) (hN : n < 1000000000000) : Calls Try.prog 13 #[.pointer (some ⟨p, 0, none⟩), .agg #[.int .i64 oq, .int .i64 oR], mvl m v] w fun e w' => ∃ X' a', e = .returned (.tuple #[.bool (tkB J m oq oR), .int .i64 (tkE m oq oR)]) ∧ Wn w' p X' (tkJ J m oq oR) a' (tkH J h m oq oR) (n + 1) ∧ a ≤ a' ∧ Mod X w w' ∧ Gone w X X' := by
  obtain ⟨ao, cap, rfl⟩ := hs.shape
  obtain ⟨k, o, lf, i, pt, ps, g, s, st, rs, rr, sq, l⟩ := m
  simp only at hs ⊢
  have hA := ((Mod.refl (fun _ => False) w).alloc (.cells #[.int .i64 oq, .int .i64 oR] 34)).alloc (.cells #[.int .i64 k, .int .i64 o, .int .i64 lf, .int .i64 i, .int .i64 pt, .int .i64 ps, .int .i64 g, .bool s, .int .i64 st, .int .i64 rs, .int .i64 rr, .int .i64 sq, .slice ao l.length cap] 39)
  have HNW := noWin (hw.keep hA)
  have HI := Inner_any k o lf i pt ps g s st rs rr sq ao cap l _ (hs.mod hA (fun _ _ h => h))
  have hB1 := (Bk.new w #[.int .i64 oq, .int .i64 oR] 34).mod ((Mod.refl (fun _ => False) _).alloc (.cells #[.int .i64 k, .int .i64 o, .int .i64 lf, .int .i64 i, .int .i64 pt, .int .i64 ps, .int .i64 g, .bool s, .int .i64 st, .int .i64 rs, .int .i64 rr, .int .i64 sq, .slice ao l.length cap] 39)) (fun h => h)
  have hB2 := Bk.new2 w (.cells #[.int .i64 oq, .int .i64 oR] 34) #[.int .i64 k, .int .i64 o, .int .i64 lf, .int .i64 i, .int .i64 pt, .int .i64 ps, .int .i64 g, .bool s, .int .i64 st, .int .i64 rs, .int .i64 rr, .int .i64 sq, .slice ao l.length cap] 39
  have HA : Hid (Mod _ _ _) := hA
  have HW : Hid (Wn w p X J a h n) := hw
  have HB1 : Hid (Bk _ _ _ _) := hB1
  have HRL : Hid (∀ c ∈ l, 0 ≤ c ∧ c ≤ 255) := hs.rng
  have HNN : Hid (n < 1000000000000) := hN
  unfold mvl
  clear hA hw hB1 hs hN
  go_enter Try.func13, Try.ntmps13
  go_wp2_with (first | (go_at_call 23; refine HNW.mono ?_; rintro e w' ⟨rfl, rfl⟩) | (refine wpList_load_row infoM Try.underlying39 rfl rfl _ rfl (w.heap.size + 1) rfl hB2 rfl ?_; simp only [Act.put, List.setIfInBounds_toArray, List.set_cons_succ, List.set_cons_zero]))
  refine HI.mono ?_
  rintro e w3 ⟨dq, dr, dn, ds, dt, k', o', lf', i', p', ps', g', s', st', rs', rr', sq', bv, rfl, hm, hy, hn⟩
  have HM3 : Hid (Mod (fun _ => False) w w3) := HA.out.and hm
  have HB3 : Hid (Bk w3 w.heap.size 34 #[.int .i64 oq, .int .i64 oR]) := HB1.out.mod hm (fun h => h)
  have HSZ : Hid (w.heap.size + 2 ≤ w3.heap.size) := by have := hm.size; simp at this; exact this
  by_cases hz : inE ⟨k, o, lf, i, pt, ps, g, s, st, rs, rr, sq, l⟩ = 0
  · obtain ⟨⟨E1, E2, E3, E4, E5⟩, eM, ho, hg⟩ := hy hz
    replace E1 := E1.symm
    replace E2 := E2.symm
    replace E3 := E3.symm
    replace E4 := E4.symm
    replace E5 := E5.symm
    subst E1 E2 E3 E4 E5
    obtain ⟨hbl, hbr⟩ := inE_body (m := ⟨k, o, lf, i, pt, ps, g, s, st, rs, rr, sq, l⟩) HRL.out hz
    simp only at hbl hbr
    obtain ⟨av, cv, rfl⟩ := ho.shape
    have e1 := congrArg Ms.kind eM
    have e2 := congrArg Ms.origin eM
    have e3 := congrArg Ms.life eM
    have e4 := congrArg Ms.id eM
    have e5 := congrArg Ms.part eM
    have e6 := congrArg Ms.parts eM
    have e7 := congrArg Ms.groups eM
    have e8 := congrArg Ms.safe eM
    have e9 := congrArg Ms.st eM
    have e10 := congrArg Ms.rs eM
    have e11 := congrArg Ms.rr eM
    have e12 := congrArg Ms.sq eM
    simp only at e1 e2 e3 e4 e5 e6 e7 e8 e9 e10 e11 e12
    subst e1 e2 e3 e4 e5 e6 e7 e8 e9 e10 e11 e12
    have HZ : Hid (inE ⟨k, o, lf, i, pt, ps, g, s, st, rs, rr, sq, l⟩ = 0) := hz
    rw [hz]
    have HOW : Hid (Own w3 (.slice av (prM l).body.length cv) (prM l).body ∧ (prM l).body.length ≤ 140737488355328 ∧ (∀ c ∈ (prM l).body, 0 ≤ c ∧ c ≤ 255)) := ⟨ho, hbl, hbr⟩
    clear hz hy hn eM ho hg hbl hbr hm HI HNW hB2
    go_upto_region 4 with (refine wpList_store_row info18 rfl rfl _ _ rfl w3.heap.size #[.int .i64 rs, .int .i64 rr, .int .i64 sq, .int .i64 i, .int .i64 st, .int .i64 (prM l).kind, .int .i64 (prM l).origin, .int .i64 (prM l).life, .int .i64 (prM l).id, .int .i64 (prM l).part, .int .i64 (prM l).parts, .int .i64 (prM l).groups, .bool (prM l).safe, .int .i64 (prM l).st, .int .i64 (prM l).rs, .int .i64 (prM l).rr, .int .i64 (prM l).sq, .slice av (prM l).body.length cv] rfl rfl (Bk.new w3 _ _) rfl rfl rfl ?_; intro w4 hB4 hm4)
    have HM34 : Hid (Mod (fun _ => False) w3 w4) := ((Mod.refl (fun _ => False) w3).alloc _).trans hm4 (V := fun _ => False) (fun _ _ h => h) (fun i hi e => by omega)
    have HM4 : Hid (Mod (fun _ => False) w w4) := HM3.out.and HM34.out
    have hB34 := HB3.out.mod HM34.out (fun h => h)
    have q0 : w4.cell? ⟨w.heap.size, 0, none⟩ = some (.int .i64 oq) := hB34.cellv (j := 0) rfl
    have q1 : w4.cell? ⟨w.heap.size, 1, none⟩ = some (.int .i64 oR) := hB34.cellv (j := 1) rfl
    obtain ⟨db, edb⟩ : ∃ db, db = w3.heap.size := ⟨_, rfl⟩
    rw [← edb] at hB4 ⊢
    have d0' : w4.cell? ⟨db, 0, none⟩ = some (.int .i64 rs) := hB4.cellv (j := 0) rfl
    have d1' : w4.cell? ⟨db, 1, none⟩ = some (.int .i64 rr) := hB4.cellv (j := 1) rfl
    have HB4 : Hid (Bk _ _ _ _) := hB4
    clear hm4 hB34 hB4 edb
    obtain ⟨b, hb⟩ : ∃ b, (!(decide (rs = oq) && decide (rr = oR))) = b := ⟨_, rfl⟩
    have HBB : Hid ((!(decide (rs = oq) && decide (rr = oR))) = b) := hb
    clear hb
    cases b with
    | true =>
      have HR : Hid (tkR ⟨k, o, lf, i, pt, ps, g, s, st, rs, rr, sq, l⟩ oq oR = false) := by
        show _ = _
        have := HBB.out
        unfold tkR
        cases h1 : (decide (rs = oq) && decide (rr = oR)) with
        | false => rfl
        | true => rw [h1] at this; cases this
      go_wp2_with (refine wpList_val (by rfl) (exR rfl rfl rfl HBB.out) ?_; simp only [Act.put, List.setIfInBounds_toArray, List.set_cons_succ, List.set_cons_zero])
      go_ret2
      refine ⟨X, a, ?_, ?_, Int.le_refl _, HM4.out.none, Gone.self _ _⟩
      · simp [tkB, tkE, tkY, HZ.out, HR.out]
      · simp only [tkJ, tkH, tkY, HR.out, Bool.and_false, Bool.false_eq_true, if_false]
        exact (HW.out.keep HM4.out).le (Nat.le_succ _)
    | false =>
      have HR : Hid (tkR ⟨k, o, lf, i, pt, ps, g, s, st, rs, rr, sq, l⟩ oq oR = true) := by
        show _ = _
        have := HBB.out
        simpa [tkR] using this
      have HP := Put_any (HW.out.keep HM4.out) (inD ⟨k, o, lf, i, pt, ps, g, s, st, rs, rr, sq, l⟩) (.slice av (prM l).body.length cv) ((HOW.out.1.sl HOW.out.2.2).mod HM34.out (fun _ _ h => h)) HOW.out.2.1 HNN.out
      rw [show dv (inD ⟨k, o, lf, i, pt, ps, g, s, st, rs, rr, sq, l⟩) (.slice av (prM l).body.length cv) = .agg #[.int .i64 rs, .int .i64 rr, .int .i64 sq, .int .i64 i, .int .i64 st, .int .i64 (prM l).kind, .int .i64 (prM l).origin, .int .i64 (prM l).life, .int .i64 (prM l).id, .int .i64 (prM l).part, .int .i64 (prM l).parts, .int .i64 (prM l).groups, .bool (prM l).safe, .int .i64 (prM l).st, .int .i64 (prM l).rs, .int .i64 (prM l).rr, .int .i64 (prM l).sq, .slice av (prM l).body.length cv] from rfl] at HP
      have hB4 := HB4.out
      go_wp2_with (first | (refine wpList_val (by rfl) (exR rfl rfl rfl HBB.out) ?_; simp only [Act.put, List.setIfInBounds_toArray, List.set_cons_succ, List.set_cons_zero]) | (refine wpList_load_row info18 Try.underlying41 rfl rfl _ rfl db rfl hB4 rfl ?_; simp only [Act.put, List.setIfInBounds_toArray, List.set_cons_succ, List.set_cons_zero]))
      refine HP.mono ?_
      rintro e w5 ⟨X', a', rfl, hw5, ha, hm5, hgo⟩
      have HE : Hid (Wn w5 p X' _ a' _ (n + 1) ∧ a ≤ a' ∧ Mod X w4 w5 ∧ Gone w4 X X') := ⟨hw5, ha, hm5, hgo⟩
      clear hw5 hm5 hgo ha HP hB4
      go_wp2
      go_ret2
      obtain ⟨hw5, ha, hm5, hgo⟩ := HE.out
      refine ⟨X', a', ?_, ?_, ha, HM4.out.none.trans hm5 (V := X) (fun _ _ h => h) (fun _ _ h => h), fun i hi => ?_⟩
      · simp [tkB, tkE, tkY, HZ.out, HR.out]
      · simp only [tkJ, tkH, tkY, HR.out, HZ.out, Bool.and_self, beq_self_eq_true, if_true]
        exact hw5
      · rcases hgo i hi with h | h
        · exact .inl h
        · have := HM4.out.size
          exact .inr (by omega)
  · obtain ⟨rfl, rfl, rfl, rfl, rfl, rfl, rfl, rfl, rfl, rfl, rfl, rfl, rfl, rfl, rfl, rfl, rfl, rfl⟩ := hn hz
    obtain ⟨z, ez⟩ : ∃ z, inE ⟨k, o, lf, i, pt, ps, g, s, st, rs, rr, sq, l⟩ = z := ⟨_, rfl⟩
    have HZ : Hid (inE ⟨k, o, lf, i, pt, ps, g, s, st, rs, rr, sq, l⟩ = z ∧ z ≠ 0) := ⟨ez, ez ▸ hz⟩
    rw [ez]
    have hb1 : (z != 0) = true := by simpa [ez] using hz
    have hb2 : decide (z = 0) = false := by simpa [ez] using hz
    have hb3 : (z == 0) = false := by simpa [ez] using hz
    clear hz ez hy hn hm HI HNW hB2
    go_wp2_with (refine wpList_store_row info18 rfl rfl _ _ rfl w3.heap.size #[.int .i64 0, .int .i64 0, .int .i64 0, .int .i64 0, .int .i64 0, .int .i64 0, .int .i64 0, .int .i64 0, .int .i64 0, .int .i64 0, .int .i64 0, .int .i64 0, .bool false, .int .i64 0, .int .i64 0, .int .i64 0, .int .i64 0, .slice none 0 0] rfl rfl (Bk.new w3 _ _) rfl rfl rfl ?_; intro w4 hB4 hm4)
    go_ret2
    have hM : Mod (fun _ => False) w w4 := (HM3.out.alloc _).trans hm4 (V := fun _ => False) (fun _ _ h => h) (fun i hi e => by have := HM3.out.size; omega)
    have hz := HZ.out
    refine ⟨X, a, ?_, ?_, Int.le_refl _, hM.none, Gone.self _ _⟩
    · simp [tkB, tkE, tkY, hz.1, hz.2]
    · simp only [tkJ, tkH, tkY, hz.1, show (z == 0) = false by simpa using hz.2, Bool.false_and, Bool.false_eq_true, if_false]
      exact (HW.out.keep hM).le (Nat.le_succ _)
end Go.Proofs.Ythiijonmnebjgaa
