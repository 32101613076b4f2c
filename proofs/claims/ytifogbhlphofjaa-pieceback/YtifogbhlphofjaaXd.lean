/- Contract of a joiner's Put, of all messages; what holds of what is under way; what one sender's parts are to another's. Conditions: a joiner that New made; a number of senders that a map can have. -/
import Derived.Test.YtifogbhlphofjaaXc
import Derived.OwnWalk
namespace Go.Proofs.Ytifogbhlphofjaa
open Go.RowKit Go.Maps
/-- A text that may be. -/
def okT (m : Ms) : Bool := m.kind == 1 && chk m == 0
theorem okT_parts {m : Ms} (h : okT m = true) : (1 ≤ m.origin ∧ m.origin ≤ 8) ∧ (1 ≤ m.life ∧ m.life ≤ 9007199254740991) ∧ (0 ≤ m.id ∧ m.id ≤ 9007199254740991) ∧ (0 ≤ m.part ∧ m.part < m.parts) ∧ (1 ≤ m.parts ∧ m.parts ≤ 5) ∧ (1 ≤ m.groups ∧ m.groups ≤ 255) ∧ m.body.length ≤ 48 := by
  unfold okT at h
  simp only [Bool.and_eq_true, beq_iff_eq] at h
  obtain ⟨hk, hc⟩ := h
  obtain ⟨h1, h2, h3⟩ := chk_parts hc
  unfold kd kd0 at h3
  rw [hk, if_neg (by decide), if_pos rfl] at h3
  unfold tx at h3
  unfold hn nd nm at h2
  simp only [Bool.and_eq_true, decide_eq_true_eq, beq_iff_eq] at h2 h3
  omega
/-- What Put leaves, tells, answers. -/
def pJ (J : Sd → Option Pile) (m : Ms) : Sd → Option Pile := if okT m then aJ J m else J
def pO (J : Sd → Option Pile) (m : Ms) : Option (List Int) := if okT m then aO J m else none
def pE (m : Ms) : Int := if okT m then 0 else 2
/-- What holds of what is under way. -/
def OkJ (J : Sd → Option Pile) : Prop := ∀ k z, J k = some z → 1 ≤ z.n ∧ z.n < z.ps ∧ z.ps ≤ 5 ∧ (z.l.length : Int) ≤ 48 * z.n
theorem OkJ.zero : OkJ (fun _ => none) := fun _ _ h => by cases h
theorem z1_ok {J : Sd → Option Pile} (h : OkJ J) {m : Ms} (ht : okT m = true) (hf : fit (z1 J m) m = true) : ((z1 J m).l.length : Int) ≤ 48 * m.part ∧ (z1 J m).n = m.part ∧ (z1 J m).ps = m.parts := by
  have hp := okT_parts ht
  unfold fit at hf
  simp only [Bool.and_eq_true, decide_eq_true_eq] at hf
  unfold z1 at hf ⊢
  by_cases e : m.part = 0
  · rw [if_pos e] at hf ⊢
    rw [e]
    exact ⟨by simp, rfl, rfl⟩
  · rw [if_neg e] at hf ⊢
    cases hJ : J (m.origin, m.life) with
    | none =>
      rw [hJ] at hf
      simp [p0] at hf
      omega
    | some z =>
      rw [hJ] at hf
      simp only [Option.getD_some] at hf ⊢
      have := h _ z hJ
      omega
theorem OkJ.put {J : Sd → Option Pile} (h : OkJ J) (m : Ms) : OkJ (pJ J m) := by
  unfold pJ
  by_cases ht : okT m = true
  · rw [if_pos ht]
    have hp := okT_parts ht
    unfold aJ
    have hd : OkJ (upd J (m.origin, m.life) none) := fun k z hz => by
      unfold upd at hz
      split at hz
      · cases hz
      · exact h k z hz
    by_cases hc : (fit (z1 J m) m && decide (m.part + 1 ≠ m.parts)) = true
    · rw [if_pos hc]
      simp only [Bool.and_eq_true, decide_eq_true_eq] at hc
      obtain ⟨a1, a2, a3⟩ := z1_ok h ht hc.1
      intro k z hz
      unfold upd at hz
      split at hz
      · cases hz
        simp only [more, List.length_append]
        omega
      · exact h k z hz
    · rw [if_neg hc]
      exact hd
  · rw [if_neg ht]
    exact h
theorem pO_len {J : Sd → Option Pile} (h : OkJ J) {m : Ms} {L : List Int} (ho : pO J m = some L) : L.length ≤ 240 := by
  unfold pO at ho
  split at ho
  · rename_i ht
    unfold aO at ho
    split at ho
    · rename_i hc
      simp only [Bool.and_eq_true, decide_eq_true_eq] at hc
      obtain ⟨a1, a2, a3⟩ := z1_ok h ht hc.1
      have hp := okT_parts ht
      cases ho
      simp only [List.length_append]
      omega
    · cases ho
  · cases ho
set_option maxRecDepth 100000 in
set_option maxHeartbeats 1000000 in
theorem Put_any {w : World} {q : Nat} {X : Nat → Prop} {J : Sd → Option Pile} {N : Nat} (k o lf i p ps g : Int) (s : Bool) (st rs rr sq : Int) (ao : Option Addr) (cap : Nat) (l : List Int) (h : Jn w q X J N) (hok : OkJ J) (hs : Sl w (.slice ao l.length cap) l)
    (hN : N < 140737488355328) (hsX : l ≠ [] → ∀ b, (Value.slice ao l.length cap).ownBlock = some b → ¬ X b) :
    Calls Try.prog 18 #[.pointer (some ⟨q, 0, none⟩), .agg #[.int .i64 k, .int .i64 o, .int .i64 lf, .int .i64 i, .int .i64 p, .int .i64 ps, .int .i64 g, .bool s, .int .i64 st, .int .i64 rs, .int .i64 rr, .int .i64 sq, .slice ao l.length cap]] w fun e w' => ∃ X' N', Jn w' q X' (pJ J ⟨k, o, lf, i, p, ps, g, s, st, rs, rr, sq, l⟩) N' ∧ N' ≤ N + 1 ∧ Gone w X X' ∧ Mod X w w' ∧
      ((pO J ⟨k, o, lf, i, p, ps, g, s, st, rs, rr, sq, l⟩ = none ∧ e = .returned (.tuple #[.slice none 0 0, .bool false, .int .i64 (pE ⟨k, o, lf, i, p, ps, g, s, st, rs, rr, sq, l⟩)])) ∨ (∃ L u, pO J ⟨k, o, lf, i, p, ps, g, s, st, rs, rr, sq, l⟩ = some L ∧ e = .returned (.tuple #[u, .bool true, .int .i64 (pE ⟨k, o, lf, i, p, ps, g, s, st, rs, rr, sq, l⟩)]) ∧ Own w' u L ∧ (∀ c ∈ L, 0 ≤ c ∧ c ≤ 255) ∧ (∀ b, u.ownBlock = some b → (X b ∨ w.heap.size ≤ b) ∧ ¬ X' b))) := by
  have hA := (Mod.refl (fun _ => False) w).alloc (.cells #[.int .i64 k, .int .i64 o, .int .i64 lf, .int .i64 i, .int .i64 p, .int .i64 ps, .int .i64 g, .bool s, .int .i64 st, .int .i64 rs, .int .i64 rr, .int .i64 sq, .slice ao l.length cap] 28)
  have hj := h.mod hA (fun _ _ h => h)
  have HN := jNone_any hj
  have HT := isText_any k o lf i p ps g s st rs rr sq ao cap l _ (hs.mod hA (fun _ _ h => h))
  have eT : okT ⟨k, o, lf, i, p, ps, g, s, st, rs, rr, sq, l⟩ = (k == 1 && chk ⟨k, o, lf, i, p, ps, g, s, st, rs, rr, sq, l⟩ == 0) := rfl
  rw [← eT] at HT
  clear eT
  unfold pJ pO pE
  rcases ht : okT ⟨k, o, lf, i, p, ps, g, s, st, rs, rr, sq, l⟩ with _ | _
  · rw [ht] at HT
    simp only [Bool.false_eq_true, if_false]
    have hB := Bk.new w #[.int .i64 k, .int .i64 o, .int .i64 lf, .int .i64 i, .int .i64 p, .int .i64 ps, .int .i64 g, .bool s, .int .i64 st, .int .i64 rs, .int .i64 rr, .int .i64 sq, .slice ao l.length cap] 28
    go_enter Try.func18, Try.ntmps18
    go_wp2_with (first | (go_at_call 30; refine HN.mono ?_; rintro e w' ⟨rfl, rfl⟩) | (go_at_call 31; refine HT.mono ?_; rintro e w2 ⟨rfl, hm2⟩))
    go_ret3
    have hM := hA.trans hm2 (V := fun _ => False) (fun _ _ h => h) (fun _ _ h => h)
    exact ⟨X, N, h.mod hM (fun _ _ h => h), by omega, Gone.refl _ _, hM.mono (fun _ _ h => h.elim), .inl ⟨trivial, rfl⟩⟩
  · rw [ht] at HT
    simp only [if_true]
    obtain ⟨t1, t2, t3, t4, t5, t6, t7⟩ := okT_parts ht
    simp only at t1 t2 t3 t4 t5 t6 t7
    have hzl : ∀ z, J (o, lf) = some z → z.l.length ≤ 1000000 := fun z hz => by have := hok _ z hz; omega
    have HA : ∀ w2, Mod (fun _ => False) w w2 → _ := fun w2 (hm : Mod (fun _ => False) w w2) => add_any k o lf i p ps g s st rs rr sq ao cap l (h.mod hm (fun _ _ h => h)) (hs.mod hm (fun _ _ h => h)) (by omega) (by unfold I64; omega) (by unfold I64; omega) (by omega) hN hzl hsX
    clear t1 t2 t3 t4 t5 t6 t7 ht hzl
    have hB := Bk.new w #[.int .i64 k, .int .i64 o, .int .i64 lf, .int .i64 i, .int .i64 p, .int .i64 ps, .int .i64 g, .bool s, .int .i64 st, .int .i64 rs, .int .i64 rr, .int .i64 sq, .slice ao l.length cap] 28
    go_enter Try.func18, Try.ntmps18
    go_wp2_with (fail)
    refine HN.mono ?_; rintro e w' ⟨rfl, rfl⟩
    go_wp2_with (fail)
    refine HT.mono ?_; rintro e w2 ⟨rfl, hm2⟩
    have hM := hA.trans hm2 (V := fun _ => False) (fun _ _ h => h) (fun _ _ h => h)
    replace hB := hB.mod hm2 (fun h => h)
    have m0 : w2.cell? ⟨w.heap.size, 0, none⟩ = some (.int .i64 k) := hB.cellv (j := 0) rfl
    have m1 : w2.cell? ⟨w.heap.size, 1, none⟩ = some (.int .i64 o) := hB.cellv (j := 1) rfl
    have m2 : w2.cell? ⟨w.heap.size, 2, none⟩ = some (.int .i64 lf) := hB.cellv (j := 2) rfl
    have m3 : w2.cell? ⟨w.heap.size, 3, none⟩ = some (.int .i64 i) := hB.cellv (j := 3) rfl
    have m4 : w2.cell? ⟨w.heap.size, 4, none⟩ = some (.int .i64 p) := hB.cellv (j := 4) rfl
    have m5 : w2.cell? ⟨w.heap.size, 5, none⟩ = some (.int .i64 ps) := hB.cellv (j := 5) rfl
    have m6 : w2.cell? ⟨w.heap.size, 6, none⟩ = some (.int .i64 g) := hB.cellv (j := 6) rfl
    have m7 : w2.cell? ⟨w.heap.size, 7, none⟩ = some (.bool s) := hB.cellv (j := 7) rfl
    have m8 : w2.cell? ⟨w.heap.size, 8, none⟩ = some (.int .i64 st) := hB.cellv (j := 8) rfl
    have m9 : w2.cell? ⟨w.heap.size, 9, none⟩ = some (.int .i64 rs) := hB.cellv (j := 9) rfl
    have m10 : w2.cell? ⟨w.heap.size, 10, none⟩ = some (.int .i64 rr) := hB.cellv (j := 10) rfl
    have m11 : w2.cell? ⟨w.heap.size, 11, none⟩ = some (.int .i64 sq) := hB.cellv (j := 11) rfl
    have m12 : w2.cell? ⟨w.heap.size, 12, none⟩ = some (.slice ao l.length cap) := hB.cellv (j := 12) rfl
    have HA2 := HA w2 hM
    clear HA HT HN
    go_wp2_with (fail)
    refine HA2.mono ?_
    rintro e w3 ⟨X', N', hj3, hN3, hG3, hM3, ⟨hO, rfl⟩ | ⟨L, u, hO, rfl, hu, hr, hb⟩⟩
    · clear m0 m1 m2 m3 m4 m5 m6 m7 m8 m9 m10 m11 m12
      go_wp2
      go_ret3
      exact ⟨X', N', hj3, hN3, (Gone.refl w X).trans hG3 hM.size, hM.trans hM3 (fun _ _ h => h.elim) (fun _ _ h => h), .inl ⟨hO, rfl⟩⟩
    · clear m0 m1 m2 m3 m4 m5 m6 m7 m8 m9 m10 m11 m12
      obtain ⟨au, cu, e⟩ := hu.shape
      subst e
      go_wp2
      go_ret3
      exact ⟨X', N', hj3, hN3, (Gone.refl w X).trans hG3 hM.size, hM.trans hM3 (fun _ _ h => h.elim) (fun _ _ h => h), .inr ⟨L, _, hO, rfl, hu, hr, fun b hb' => ⟨(hb b hb').1.imp id (fun e => Nat.le_trans hM.size e), (hb b hb').2⟩⟩⟩
end Go.Proofs.Ytifogbhlphofjaa
