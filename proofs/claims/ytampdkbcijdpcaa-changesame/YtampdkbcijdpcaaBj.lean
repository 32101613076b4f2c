/- ChangeOrder in plain words, and its drawn statement. Conditions: what is said of the slots that it reads, and of memory. -/
import Derived.Test.YtampdkbcijdpcaaBi
import Derived.Test.YtampdkbcijdpcaaRgd
namespace Go.Proofs.Ytampdkbcijdpcaa
open Go.RowKit Go.Maps
/-- What ChangeOrder asks of what is told, from the number l on, t transitional configurations behind. -/
def okL (kin s G : Int) : Int → Int → List Ev → Bool
  | _, t, [] => t == 1
  | l, t, e :: r => if evN e = 0 then okL kin s G l (t + 1) r else
      decide (l < evN e) && ((e.d.m.kind != 5) && (!((t == 0) && ((e.d.m.safe && decide (s < e.d.n)) || decide (G < e.d.n)) || (decide (G < e.d.n) && !Cr.has kin e.d.s)) && okL kin s G (evN e) t r))
theorem okL_msgs {kin s G t : Int} {R : List Ev} : ∀ (ds : List Dt) (l : Int), (∀ d ∈ ds, 1 ≤ d.n ∧ d.m.kind ≠ 5 ∧ (t = 0 → ¬ (d.m.safe = true ∧ s < d.n) ∧ ¬ G < d.n) ∧ (G < d.n → Cr.has kin d.s = true)) → ds.Pairwise (fun x y => x.n < y.n) → (∀ d ∈ ds, l < d.n) →
    (∀ l', (l' = l ∨ ∃ d ∈ ds, l' = d.n) → okL kin s G l' t R = true) → okL kin s G l t (ds.map evD ++ R) = true
  | [], l, _, _, _, h => h l (.inl rfl)
  | d :: r, l, h1, h2, h3, h => by
    obtain ⟨a1, a2, a3, a4⟩ := h1 d (by simp)
    obtain ⟨b1, b2⟩ := List.pairwise_cons.1 h2
    have hn : evN (evD d) = d.n := rfl
    rw [List.map_cons, List.cons_append, okL, hn, if_neg (by omega)]
    have ih := okL_msgs r d.n (fun x hx => h1 x (by simp [hx])) b2 b1 (fun l' hl => h l' (by
      rcases hl with rfl | ⟨x, hx, rfl⟩
      · exact .inr ⟨d, by simp, rfl⟩
      · exact .inr ⟨x, by simp [hx], rfl⟩))
    rw [ih]
    have c1 : decide (l < d.n) = true := decide_eq_true (h3 d (by simp))
    have c2 : ((evD d).d.m.kind != 5) = true := by simp [evD, a2]
    rw [c1, c2]
    simp only [Bool.true_and, Bool.and_true]
    show (!((t == 0) && ((d.m.safe && decide (s < d.n)) || decide (G < d.n)) || (decide (G < d.n) && !Cr.has kin d.s))) = true
    by_cases hG : G < d.n
    · rw [a4 hG]
      by_cases ht : t = 0
      · exact absurd hG (a3 ht).2
      · simp [ht]
    · by_cases ht : t = 0
      · have := (a3 ht).1
        simp [hG, ht]
        rcases Bool.eq_false_or_eq_true d.m.safe with hs | hs
        · have : ¬ s < d.n := fun h => this ⟨hs, h⟩
          exact .inr (by omega)
        · exact .inl hs
      · simp [hG, ht]
theorem dk_mem {J : Int → Option Dt} {k : Int} {d : Dt} (h : d ∈ dk J k) : J k = some d ∧ d.m.kind ≠ 5 := by
  unfold dk at h
  split at h
  · simp at h
  · rename_i e he
    split at h
    · simp at h
    · rename_i h5
      simp at h
      subst h
      exact ⟨he, h5⟩
theorem dl_mem {J : Int → Option Dt} {N : Int} : ∀ {t : Nat} {d : Dt}, d ∈ dl J N t → ∃ i : Nat, i < t ∧ J (N + i + 1) = some d ∧ d.m.kind ≠ 5
  | 0, d, h => by simp [dl] at h
  | t + 1, d, h => by
    rw [dl] at h
    rcases List.mem_append.1 h with h | h
    · obtain ⟨i, h1, h2⟩ := dl_mem h
      exact ⟨i, by omega, h2⟩
    · exact ⟨t, by omega, dk_mem h⟩
theorem dl_up {J : Int → Option Dt} {N : Int} (hJ : ∀ k d, J k = some d → d.n = k) : ∀ t : Nat, (dl J N t).Pairwise (fun x y => x.n < y.n)
  | 0 => by simp [dl]
  | t + 1 => by
    rw [dl, List.pairwise_append]
    refine ⟨dl_up hJ t, ?_, fun x hx y hy => ?_⟩
    · unfold dk
      split
      · simp
      · split <;> simp
    · obtain ⟨i, h1, h2, _⟩ := dl_mem hx
      have h3 := (dk_mem hy).1
      rw [hJ _ _ h2, hJ _ _ h3]
      omega
theorem lf_sub (kin : Int) : ∀ (ds : List Dt) (g : Bool) (l : Int), (lf kin g l ds).Sublist ds
  | [], _, _ => by simp [lf]
  | d :: r, g, l => by
    rw [lf]
    have ih := lf_sub kin r (g && decide (d.n = l + 1)) d.n
    split
    · unfold msg
      split
      · simpa using ih.trans (List.sublist_cons_self d r)
      · simpa using ih.cons_cons d
    · simpa using ih.trans (List.sublist_cons_self d r)
theorem lf_ok {J : Int → Option Dt} {kin G : Int} (hG : J G = none) : ∀ (ds : List Dt) (g : Bool) (l : Int), (g = true → l < G) → (∀ d ∈ ds, J d.n = some d) → ∀ d ∈ lf kin g l ds, d.m.kind ≠ 5 ∧ (G < d.n → Cr.has kin d.s = true)
  | [], _, _, _, _, d, h => by simp [lf] at h
  | e :: r, g, l, hg, hJ, d, h => by
    rw [lf] at h
    have hJe := hJ e (by simp)
    have hg' : (g && decide (e.n = l + 1)) = true → e.n < G := fun hh => by
      simp only [Bool.and_eq_true, decide_eq_true_eq] at hh
      have h1 := hg hh.1
      rcases Int.lt_trichotomy e.n G with h2 | h2 | h2
      · exact h2
      · rw [h2, hG] at hJe; cases hJe
      · omega
    rcases List.mem_append.1 h with h | h
    · split at h
      · rename_i hc
        unfold msg at h
        split at h
        · simp at h
        · rename_i h5
          simp at h
          subst h
          refine ⟨h5, fun hlt => ?_⟩
          rcases Bool.or_eq_true_iff.1 hc with hc | hc
          · have := hg' hc; omega
          · exact hc
      · simp at h
    · exact lf_ok hG r _ _ hg' (fun x hx => hJ x (by simp [hx])) d h
/-- What is told is as ChangeOrder asks. -/
theorem tld_ok {J : Int → Option Dt} {a h : Int} (hp : Wp J a h) {c x : Cg} {kin N s G : Int} {k : Nat} {zs : List Int} (hN : 0 ≤ N) (hnc : Nc J s N k) (hks : Ks J (N + k) zs) (hG : J G = none) (hGN : ∀ y, N < y → y < G → (J y).isSome = true) (hGl : N < G) :
    okL kin s G N 0 ((dl J N k).map evD ++ (evC (cgT c x kin) :: (lf kin true (N + k) (zs.map (fun k => (J k).getD d0))).map evD)) = true := by
  have hJn : ∀ k d, J k = some d → d.n = k := fun k d hd => (hp.each k d hd).1
  have hkG : N + k < G := by
    rcases Nat.eq_zero_or_pos k with e | e
    · subst e; simpa using hGl
    · rcases Int.lt_or_le (N + k) G with h1 | h1
      · exact h1
      · exfalso
        have h2 := cgo_some (hnc.on (G - N - 1).toNat (by omega))
        rw [show N + ((G - N - 1).toNat : Int) + 1 = G by omega, hG] at h2
        cases h2
  have hab : ∀ d ∈ zs.map (fun k => (J k).getD d0), J d.n = some d ∧ N + k < d.n ∧ 1 ≤ d.n := fun d hd => by
    obtain ⟨z, hz, rfl⟩ := List.mem_map.1 hd
    obtain ⟨h1, h2⟩ := (hks.mem z).1 hz
    obtain ⟨e, he⟩ := Option.isSome_iff_exists.1 h2
    have h3 := hp.each z e he
    simp only [he, Option.getD_some]
    rw [h3.1]
    exact ⟨he, h1, h3.2.1⟩
  refine okL_msgs _ _ (fun d hd => ?_) (dl_up hJn k) (fun d hd => ?_) (fun l hl => ?_)
  · obtain ⟨i, h1, h2, h3⟩ := dl_mem hd
    have h4 := hp.each _ d h2
    refine ⟨by omega, h3, fun _ => ⟨fun hs => ?_, by omega⟩, fun hlt => by omega⟩
    have h5 := hnc.on i h1
    simp only [cgo, h2, wt, Bool.not_eq_true', Bool.and_eq_false_iff] at h5
    simp [hs.1, h3] at h5
    omega
  · obtain ⟨i, h1, h2, h3⟩ := dl_mem hd
    have h4 := hp.each _ d h2
    omega
  · have hl2 : l ≤ N + k := by
      rcases hl with rfl | ⟨d, hd, rfl⟩
      · omega
      · obtain ⟨i, h1, h2, h3⟩ := dl_mem hd
        have h4 := hp.each _ d h2
        omega
    have hT : evN (evC (cgT c x kin)) = 0 := by simp [evN, evC, cgT]
    rw [okL, if_pos hT]
    have hlm := lf_sub kin (zs.map (fun k => (J k).getD d0)) true (N + k)
    have hfin := okL_msgs (kin := kin) (s := s) (G := G) (t := 0 + 1) (R := []) (lf kin true (N + k) (zs.map (fun k => (J k).getD d0))) l (fun d hd => by
      have h1 := lf_ok hG _ true (N + k) (fun _ => hkG) (fun d hd => (hab d hd).1) d hd
      exact ⟨(hab d (hlm.subset hd)).2.2, h1.1, fun h => by omega, h1.2⟩) (by
      refine List.Pairwise.sublist hlm ?_
      rw [List.pairwise_map]
      refine hks.up.imp_of_mem fun {y z} hy hz hlt => ?_
      obtain ⟨_, h2⟩ := (hks.mem y).1 hy
      obtain ⟨_, h3⟩ := (hks.mem z).1 hz
      obtain ⟨e, he⟩ := Option.isSome_iff_exists.1 h2
      obtain ⟨f, hf⟩ := Option.isSome_iff_exists.1 h3
      simp only [he, hf, Option.getD_some]
      rw [hJn _ _ he, hJn _ _ hf]
      exact hlt) (fun d hd => by have := (hab d (hlm.subset hd)).2.1; omega) (fun l' _ => rfl)
    simpa using hfin
/-- What is said of a slot. -/
def p_rco (db _kb : Nat) (tr sa G nn ss kx kq : Int) (sf hb : Bool) (su : Value) (i : Nat) (v : Value) (_w : World) : Prop :=
  match i with
  | 0 => v = .int .i64 tr
  | 1 => v = .bool (tr == 0)
  | 2 => v = .bool (tr == 0)
  | 3 => v = if (tr == 0) = true then .pointer (some ⟨db, 5, none⟩) else undef
  | 4 => v = if (tr == 0) = true then .pointer (some ⟨db, 12, none⟩) else undef
  | 5 => v = if (tr == 0) = true then .bool sf else undef
  | 6 => v = if (tr == 0) = true then .bool sf else undef
  | 7 => v = if ((tr == 0) && sf) = true then .pointer (some ⟨db, 2, none⟩) else undef
  | 8 => v = if ((tr == 0) && sf) = true then .int .i64 nn else undef
  | 9 => v = if ((tr == 0) && sf) = true then .int .i64 sa else undef
  | 10 => v = if ((tr == 0) && sf) = true then .bool (decide (sa < nn)) else undef
  | 11 => v = if (tr == 0) = true then .bool (sf && (decide (sa < nn))) else undef
  | 12 => v = if (tr == 0) = true then .bool (sf && (decide (sa < nn))) else undef
  | 13 => v = if ((tr == 0) && (!(sf && (decide (sa < nn))))) = true then .pointer (some ⟨db, 2, none⟩) else undef
  | 14 => v = if ((tr == 0) && (!(sf && (decide (sa < nn))))) = true then .int .i64 nn else undef
  | 15 => v = if ((tr == 0) && (!(sf && (decide (sa < nn))))) = true then .int .i64 G else undef
  | 16 => v = if ((tr == 0) && (!(sf && (decide (sa < nn))))) = true then .bool (decide (G < nn)) else undef
  | 17 => v = if (tr == 0) = true then .bool ((sf && (decide (sa < nn))) || (decide (G < nn))) else undef
  | 18 => v = .bool ((tr == 0) && ((sf && (decide (sa < nn))) || (decide (G < nn))))
  | 19 => v = .bool ((tr == 0) && ((sf && (decide (sa < nn))) || (decide (G < nn))))
  | 20 => v = if (!((tr == 0) && ((sf && (decide (sa < nn))) || (decide (G < nn))))) = true then .pointer (some ⟨db, 2, none⟩) else undef
  | 21 => v = if (!((tr == 0) && ((sf && (decide (sa < nn))) || (decide (G < nn))))) = true then .int .i64 nn else undef
  | 22 => v = if (!((tr == 0) && ((sf && (decide (sa < nn))) || (decide (G < nn))))) = true then .int .i64 G else undef
  | 23 => v = if (!((tr == 0) && ((sf && (decide (sa < nn))) || (decide (G < nn))))) = true then .bool (decide (G < nn)) else undef
  | 24 => v = if (!((tr == 0) && ((sf && (decide (sa < nn))) || (decide (G < nn))))) = true then .bool (decide (G < nn)) else undef
  | 25 => v = if ((!((tr == 0) && ((sf && (decide (sa < nn))) || (decide (G < nn))))) && (decide (G < nn))) = true then .agg #[su, .int .i64 kx] else undef
  | 26 => v = if ((!((tr == 0) && ((sf && (decide (sa < nn))) || (decide (G < nn))))) && (decide (G < nn))) = true then .int .i64 kq else undef
  | 27 => v = if ((!((tr == 0) && ((sf && (decide (sa < nn))) || (decide (G < nn))))) && (decide (G < nn))) = true then .pointer (some ⟨db, 3, none⟩) else undef
  | 28 => v = if ((!((tr == 0) && ((sf && (decide (sa < nn))) || (decide (G < nn))))) && (decide (G < nn))) = true then .int .i64 ss else undef
  | 29 => v = if ((!((tr == 0) && ((sf && (decide (sa < nn))) || (decide (G < nn))))) && (decide (G < nn))) = true then .bool hb else undef
  | 30 => v = if ((!((tr == 0) && ((sf && (decide (sa < nn))) || (decide (G < nn))))) && (decide (G < nn))) = true then .bool (!hb) else undef
  | 31 => v = if (!((tr == 0) && ((sf && (decide (sa < nn))) || (decide (G < nn))))) = true then .bool ((decide (G < nn)) && (!hb)) else undef
  | 32 => v = .bool (((tr == 0) && ((sf && (decide (sa < nn))) || (decide (G < nn)))) || ((decide (G < nn)) && (!hb)))
  | _ => True
/-- Its operations. -/
structure O_rco (ops : Array Oper) : Prop where
  e0 : Is ops 0 (some 104) (Op.move (Operand.tmp 12)) none []
  e1 : Is ops 1 (some 105) (Op.binOp BinOp.eql 3 (Operand.tmp 104) (Operand.const (Value.int IntKind.i64 0)) 3) none [0]
  e2 : Is ops 2 (some 106) (Op.move (Operand.tmp 105)) none [1]
  e3 : Is ops 3 (some 107) (Op.fieldAddr 44 (Operand.tmp 17) 4) (some (2, true)) [2]
  e4 : Is ops 4 (some 108) (Op.fieldAddr 42 (Operand.tmp 107) 7) (some (2, true)) [2, 3]
  e5 : Is ops 5 (some 109) (Op.load 4 (Operand.tmp 108)) (some (2, true)) [2, 4]
  e6 : Is ops 6 (some 110) (Op.move (Operand.tmp 109)) (some (2, true)) [2, 5]
  e7 : Is ops 7 (some 111) (Op.fieldAddr 44 (Operand.tmp 17) 1) (some (6, true)) [6]
  e8 : Is ops 8 (some 112) (Op.load 3 (Operand.tmp 111)) (some (6, true)) [6, 7]
  e9 : Is ops 9 (some 113) (Op.move (Operand.tmp 2)) (some (6, true)) [6]
  e10 : Is ops 10 (some 114) (Op.binOp BinOp.gtr 3 (Operand.tmp 112) (Operand.tmp 113) 3) (some (6, true)) [6, 8, 9]
  e11 : Is ops 11 (some 115) (Op.pick (Operand.tmp 110) (Operand.tmp 114) (Operand.const (Value.bool false))) (some (2, true)) [2, 6, 10]
  e12 : Is ops 12 (some 116) (Op.move (Operand.tmp 115)) (some (2, true)) [2, 6, 11]
  e13 : Is ops 13 (some 117) (Op.fieldAddr 44 (Operand.tmp 17) 1) (some (12, false)) [12]
  e14 : Is ops 14 (some 118) (Op.load 3 (Operand.tmp 117)) (some (12, false)) [12, 13]
  e15 : Is ops 15 (some 119) (Op.move (Operand.tmp 13)) (some (12, false)) [12]
  e16 : Is ops 16 (some 120) (Op.binOp BinOp.gtr 3 (Operand.tmp 118) (Operand.tmp 119) 3) (some (12, false)) [12, 14, 15]
  e17 : Is ops 17 (some 121) (Op.pick (Operand.tmp 116) (Operand.const (Value.bool true)) (Operand.tmp 120)) (some (2, true)) [2, 12, 16]
  e18 : Is ops 18 (some 122) (Op.pick (Operand.tmp 106) (Operand.tmp 121) (Operand.const (Value.bool false))) none [2, 17]
  e19 : Is ops 19 (some 123) (Op.move (Operand.tmp 122)) none [12, 18]
  e20 : Is ops 20 (some 124) (Op.fieldAddr 44 (Operand.tmp 17) 1) (some (19, false)) [19]
  e21 : Is ops 21 (some 125) (Op.load 3 (Operand.tmp 124)) (some (19, false)) [19, 20]
  e22 : Is ops 22 (some 126) (Op.move (Operand.tmp 13)) (some (19, false)) [19]
  e23 : Is ops 23 (some 127) (Op.binOp BinOp.gtr 3 (Operand.tmp 125) (Operand.tmp 126) 3) (some (19, false)) [19, 21, 22]
  e24 : Is ops 24 (some 128) (Op.move (Operand.tmp 127)) (some (19, false)) [19, 23]
  e25 : Is ops 25 (some 129) (Op.load 57 (Operand.tmp 3)) (some (24, true)) [24]
  e26 : Is ops 26 (some 130) (Op.call { callee := Callee.value (Operand.func 18), args := #[Operand.tmp 129], argTypes := #[57] }) (some (24, true)) [24, 25]
  e27 : Is ops 27 (some 131) (Op.fieldAddr 44 (Operand.tmp 17) 2) (some (24, true)) [24]
  e28 : Is ops 28 (some 132) (Op.load 3 (Operand.tmp 131)) (some (24, true)) [24, 27]
  e29 : Is ops 29 (some 133) (Op.call { callee := Callee.value (Operand.func 23), args := #[Operand.tmp 130, Operand.tmp 132], argTypes := #[3, 3] }) (some (24, true)) [24, 26, 28]
  e30 : Is ops 30 (some 134) (Op.unOp UnOp.not 4 (Operand.tmp 133)) (some (24, true)) [24, 29]
  e31 : Is ops 31 (some 135) (Op.pick (Operand.tmp 128) (Operand.tmp 134) (Operand.const (Value.bool false))) (some (19, false)) [19, 24, 30]
  e32 : Is ops 32 (some 136) (Op.pick (Operand.tmp 123) (Operand.const (Value.bool true)) (Operand.tmp 135)) none [19, 31]
set_option maxRecDepth 100000 in
set_option maxHeartbeats 4000000 in
theorem rco {ops : Array Oper} {id : Nat} {aZ : Act} {w0 : World} {Q : Exit → Act → World → Prop} (db kb : Nat) (tr sa G nn ss kx kq : Int) (sf hb : Bool) (su : Value)
    (E : O_rco ops) (hN : ops.size = 33) (hlow : lowB ops = true) (hds : dsts ops = [some 104, some 105, some 106, some 107, some 108, some 109, some 110, some 111, some 112, some 113, some 114, some 115, some 116, some 117, some 118, some 119, some 120, some 121, some 122, some 123, some 124, some 125, some 126, some 127, some 128, some 129, some 130, some 131, some 132, some 133, some 134, some 135, some 136]) (hnd : injB ops = true) (ha0 : aZ.tmps.size = 139)
    (bS2 : aZ.tmps.getD 2 undef = .int .i64 sa)
    (bS3 : aZ.tmps.getD 3 undef = .pointer (some ⟨kb, 0, none⟩))
    (bS12 : aZ.tmps.getD 12 undef = .int .i64 tr)
    (bS13 : aZ.tmps.getD 13 undef = .int .i64 G)
    (bS17 : aZ.tmps.getD 17 undef = .pointer (some ⟨db, 0, none⟩))
    (k_db_2 : w0.cell? ⟨db, 2, none⟩ = some (.int .i64 nn))
    (k_db_3 : w0.cell? ⟨db, 3, none⟩ = some (.int .i64 ss))
    (k_db_12 : w0.cell? ⟨db, 12, none⟩ = some (.bool sf))
    (k_kb_0 : w0.cell? ⟨kb, 0, none⟩ = some (su))
    (k_kb_1 : w0.cell? ⟨kb, 1, none⟩ = some (.int .i64 kx))
    (H26 : ∀ (W : World), Mod (fun _ => False) w0 W → Calls Try.prog 18 #[.agg #[su, .int .i64 kx]] W fun e w' => e = .returned (.int .i64 kq) ∧ Mod (fun _ => False) W w')
    (H29 : ∀ (W : World), Mod (fun _ => False) w0 W → Calls Try.prog 23 #[.int .i64 kq, .int .i64 ss] W fun e w' => e = .returned (.bool hb) ∧ Mod (fun _ => False) W w')
    (hend : ∀ (f : Nat → Value) (w : World), Mod (fun _ => False) w0 w → Q .normal (puts aZ [(104, .int .i64 tr), (105, .bool (tr == 0)), (106, .bool (tr == 0)), (107, f 107), (108, f 108), (109, f 109), (110, f 110), (111, f 111), (112, f 112), (113, f 113), (114, f 114), (115, f 115), (116, f 116), (117, f 117), (118, f 118), (119, f 119), (120, f 120), (121, f 121), (122, .bool ((tr == 0) && ((sf && (decide (sa < nn))) || (decide (G < nn))))), (123, .bool ((tr == 0) && ((sf && (decide (sa < nn))) || (decide (G < nn))))), (124, f 124), (125, f 125), (126, f 126), (127, f 127), (128, f 128), (129, f 129), (130, f 130), (131, f 131), (132, f 132), (133, f 133), (134, f 134), (135, f 135), (136, .bool (((tr == 0) && ((sf && (decide (sa < nn))) || (decide (G < nn)))) || ((decide (G < nn)) && (!hb))))]) w) :
    (Code.region id ops true).wp Try.prog Q aZ w0 := by
  obtain ⟨E0, E1, E2, E3, E4, E5, E6, E7, E8, E9, E10, E11, E12, E13, E14, E15, E16, E17, E18, E19, E20, E21, E22, E23, E24, E25, E26, E27, E28, E29, E30, E31, E32⟩ := E
  have hstay : ∀ (i : Nat) (v : Value) (w w1 : World), Mod (fun _ => False) w w1 → (p_rco db kb tr sa G nn ss kx kq sf hb su) i v w → (p_rco db kb tr sa G nn ss kx kq sf hb su) i v w1 := fun _ _ _ _ _ h => h
  have s0 : ∀ o, ops[0]? = some o → StepI Try.prog ops (p_rco db kb tr sa G nn ss kx kq sf hb su) (fun (_ : Array Bool) (_ : Act) (w : World) => Mod (fun _ => False) w0 w) aZ Q 0 o := by
    refine E0.stepI fun o hd ho hg hw => ?_
    intro y w listed hsz hls hun hwt hdown D' hRR hinv K hK
    have f12 : y.eval (Operand.tmp 12) = .int .i64 tr   := (hRR 12 (not_of (by rw [hds]; decide))).trans bS12
    exact .inl ⟨wanted_none hg, wp_value (ox_move ho f12) (hK _ _ (fun _ _ _ _ _ _ h => h) rfl hinv)⟩
  have s1 : ∀ o, ops[1]? = some o → StepI Try.prog ops (p_rco db kb tr sa G nn ss kx kq sf hb su) (fun (_ : Array Bool) (_ : Act) (w : World) => Mod (fun _ => False) w0 w) aZ Q 1 o := by
    refine E1.stepI fun o hd ho hg hw => ?_
    intro y w listed hsz hls hun hwt hdown D' hRR hinv K hK
    have f104 : y.eval (Operand.tmp 104) = .int .i64 tr := E0.postI (Post := (p_rco db kb tr sa G nn ss kx kq sf hb su)) (a := y) (w := w) D' (hwt 0 (hw 0 (by simp)))
    exact .inl ⟨wanted_none hg, wp_value (rx_eql ho f104 rfl) (hK _ _ (fun _ _ _ _ _ _ h => h) rfl hinv)⟩
  have s2 : ∀ o, ops[2]? = some o → StepI Try.prog ops (p_rco db kb tr sa G nn ss kx kq sf hb su) (fun (_ : Array Bool) (_ : Act) (w : World) => Mod (fun _ => False) w0 w) aZ Q 2 o := by
    refine E2.stepI fun o hd ho hg hw => ?_
    intro y w listed hsz hls hun hwt hdown D' hRR hinv K hK
    have f105 : y.eval (Operand.tmp 105) = .bool (tr == 0) := E1.postI (Post := (p_rco db kb tr sa G nn ss kx kq sf hb su)) (a := y) (w := w) D' (hwt 1 (hw 1 (by simp)))
    exact .inl ⟨wanted_none hg, wp_value (ox_move ho f105) (hK _ _ (fun _ _ _ _ _ _ h => h) rfl hinv)⟩
  have s3 : ∀ o, ops[3]? = some o → StepI Try.prog ops (p_rco db kb tr sa G nn ss kx kq sf hb su) (fun (_ : Array Bool) (_ : Act) (w : World) => Mod (fun _ => False) w0 w) aZ Q 3 o := by
    refine E3.stepI fun o hd ho hg hw => ?_
    intro y w listed hsz hls hun hwt hdown D' hRR hinv K hK
    have gv : y.tmps.getD 106 undef = .bool (tr == 0) := E2.postI (Post := (p_rco db kb tr sa G nn ss kx kq sf hb su)) (a := y) (w := w) D' (hwt 2 (hw 2 (by simp)))
    have wt : Region.wanted o (yielded ops y.tmps) = (tr == 0) := by
      rw [wanted_b E2 hg (by rw [hsz, ha0]; decide) gv]
      cases (tr == 0) <;> rfl
    cases hc : (tr == 0)
    · exact .inr ⟨wt.trans hc, hK _ _ (fun _ _ _ _ _ _ h => h) (by show undef = if (tr == 0) = true then .pointer (some ⟨db, 5, none⟩) else undef; rw [hc]; rfl) hinv⟩
    · have f17 : y.eval (Operand.tmp 17) = .pointer (some ⟨db, 0, none⟩)   := (hRR 17 (not_of (by rw [hds]; decide))).trans bS17
      exact .inl ⟨wt.trans hc, wp_value (ox_field (v := .pointer (some ⟨db, 5, none⟩)) ho f17 (by simp [go_sem])) (hK _ _ (fun _ _ _ _ _ _ h => h) (by show _ = if (tr == 0) = true then .pointer (some ⟨db, 5, none⟩) else undef; rw [hc]; rfl) hinv)⟩
  have s4 : ∀ o, ops[4]? = some o → StepI Try.prog ops (p_rco db kb tr sa G nn ss kx kq sf hb su) (fun (_ : Array Bool) (_ : Act) (w : World) => Mod (fun _ => False) w0 w) aZ Q 4 o := by
    refine E4.stepI fun o hd ho hg hw => ?_
    intro y w listed hsz hls hun hwt hdown D' hRR hinv K hK
    have gv : y.tmps.getD 106 undef = .bool (tr == 0) := E2.postI (Post := (p_rco db kb tr sa G nn ss kx kq sf hb su)) (a := y) (w := w) D' (hwt 2 (hw 2 (by simp)))
    have wt : Region.wanted o (yielded ops y.tmps) = (tr == 0) := by
      rw [wanted_b E2 hg (by rw [hsz, ha0]; decide) gv]
      cases (tr == 0) <;> rfl
    cases hc : (tr == 0)
    · exact .inr ⟨wt.trans hc, hK _ _ (fun _ _ _ _ _ _ h => h) (by show undef = if (tr == 0) = true then .pointer (some ⟨db, 12, none⟩) else undef; rw [hc]; rfl) hinv⟩
    · have f107 : y.eval (Operand.tmp 107) = .pointer (some ⟨db, 5, none⟩) := (show y.eval (Operand.tmp 107) = (if (tr == 0) = true then .pointer (some ⟨db, 5, none⟩) else undef) from E3.postI (Post := (p_rco db kb tr sa G nn ss kx kq sf hb su)) (a := y) (w := w) D' (hwt 3 (hw 3 (by simp)))).trans (if_pos hc)
      exact .inl ⟨wt.trans hc, wp_value (ox_field (v := .pointer (some ⟨db, 12, none⟩)) ho f107 (by simp [go_sem])) (hK _ _ (fun _ _ _ _ _ _ h => h) (by show _ = if (tr == 0) = true then .pointer (some ⟨db, 12, none⟩) else undef; rw [hc]; rfl) hinv)⟩
  have s5 : ∀ o, ops[5]? = some o → StepI Try.prog ops (p_rco db kb tr sa G nn ss kx kq sf hb su) (fun (_ : Array Bool) (_ : Act) (w : World) => Mod (fun _ => False) w0 w) aZ Q 5 o := by
    refine E5.stepI fun o hd ho hg hw => ?_
    intro y w listed hsz hls hun hwt hdown D' hRR hinv K hK
    have gv : y.tmps.getD 106 undef = .bool (tr == 0) := E2.postI (Post := (p_rco db kb tr sa G nn ss kx kq sf hb su)) (a := y) (w := w) D' (hwt 2 (hw 2 (by simp)))
    have wt : Region.wanted o (yielded ops y.tmps) = (tr == 0) := by
      rw [wanted_b E2 hg (by rw [hsz, ha0]; decide) gv]
      cases (tr == 0) <;> rfl
    cases hc : (tr == 0)
    · exact .inr ⟨wt.trans hc, hK _ _ (fun _ _ _ _ _ _ h => h) (by show undef = if (tr == 0) = true then .bool sf else undef; rw [hc]; rfl) hinv⟩
    · have f108 : y.eval (Operand.tmp 108) = .pointer (some ⟨db, 12, none⟩) := (show y.eval (Operand.tmp 108) = (if (tr == 0) = true then .pointer (some ⟨db, 12, none⟩) else undef) from E4.postI (Post := (p_rco db kb tr sa G nn ss kx kq sf hb su)) (a := y) (w := w) D' (hwt 4 (hw 4 (by simp)))).trans (if_pos hc)
      have h0 := hinv.cell k_db_12 (fun h => h)
      exact .inl ⟨wt.trans hc, wp_value (ox_load (v := .bool sf) ho f108 (by simp [go_sem, h0])) (hK _ _ (fun _ _ _ _ _ _ h => h) (by show _ = if (tr == 0) = true then .bool sf else undef; rw [hc]; rfl) hinv)⟩
  have s6 : ∀ o, ops[6]? = some o → StepI Try.prog ops (p_rco db kb tr sa G nn ss kx kq sf hb su) (fun (_ : Array Bool) (_ : Act) (w : World) => Mod (fun _ => False) w0 w) aZ Q 6 o := by
    refine E6.stepI fun o hd ho hg hw => ?_
    intro y w listed hsz hls hun hwt hdown D' hRR hinv K hK
    have gv : y.tmps.getD 106 undef = .bool (tr == 0) := E2.postI (Post := (p_rco db kb tr sa G nn ss kx kq sf hb su)) (a := y) (w := w) D' (hwt 2 (hw 2 (by simp)))
    have wt : Region.wanted o (yielded ops y.tmps) = (tr == 0) := by
      rw [wanted_b E2 hg (by rw [hsz, ha0]; decide) gv]
      cases (tr == 0) <;> rfl
    cases hc : (tr == 0)
    · exact .inr ⟨wt.trans hc, hK _ _ (fun _ _ _ _ _ _ h => h) (by show undef = if (tr == 0) = true then .bool sf else undef; rw [hc]; rfl) hinv⟩
    · have f109 : y.eval (Operand.tmp 109) = .bool sf := (show y.eval (Operand.tmp 109) = (if (tr == 0) = true then .bool sf else undef) from E5.postI (Post := (p_rco db kb tr sa G nn ss kx kq sf hb su)) (a := y) (w := w) D' (hwt 5 (hw 5 (by simp)))).trans (if_pos hc)
      exact .inl ⟨wt.trans hc, wp_value (ox_move ho f109) (hK _ _ (fun _ _ _ _ _ _ h => h) (by show _ = if (tr == 0) = true then .bool sf else undef; rw [hc]; rfl) hinv)⟩
  have s7 : ∀ o, ops[7]? = some o → StepI Try.prog ops (p_rco db kb tr sa G nn ss kx kq sf hb su) (fun (_ : Array Bool) (_ : Act) (w : World) => Mod (fun _ => False) w0 w) aZ Q 7 o := by
    refine E7.stepI fun o hd ho hg hw => ?_
    intro y w listed hsz hls hun hwt hdown D' hRR hinv K hK
    have gv : y.tmps.getD 110 undef = if (tr == 0) = true then .bool sf else undef := E6.postI (Post := (p_rco db kb tr sa G nn ss kx kq sf hb su)) (a := y) (w := w) D' (hwt 6 (hw 6 (by simp)))
    have wt : Region.wanted o (yielded ops y.tmps) = ((tr == 0) && sf) := by
      rw [wanted_if E6 hg (by rw [hsz, ha0]; decide) gv]
      cases sf <;> cases (tr == 0) <;> rfl
    cases hc : ((tr == 0) && sf)
    · exact .inr ⟨wt.trans hc, hK _ _ (fun _ _ _ _ _ _ h => h) (by show undef = if ((tr == 0) && sf) = true then .pointer (some ⟨db, 2, none⟩) else undef; rw [hc]; rfl) hinv⟩
    · have f17 : y.eval (Operand.tmp 17) = .pointer (some ⟨db, 0, none⟩)   := (hRR 17 (not_of (by rw [hds]; decide))).trans bS17
      exact .inl ⟨wt.trans hc, wp_value (ox_field (v := .pointer (some ⟨db, 2, none⟩)) ho f17 (by simp [go_sem])) (hK _ _ (fun _ _ _ _ _ _ h => h) (by show _ = if ((tr == 0) && sf) = true then .pointer (some ⟨db, 2, none⟩) else undef; rw [hc]; rfl) hinv)⟩
  have s8 : ∀ o, ops[8]? = some o → StepI Try.prog ops (p_rco db kb tr sa G nn ss kx kq sf hb su) (fun (_ : Array Bool) (_ : Act) (w : World) => Mod (fun _ => False) w0 w) aZ Q 8 o := by
    refine E8.stepI fun o hd ho hg hw => ?_
    intro y w listed hsz hls hun hwt hdown D' hRR hinv K hK
    have gv : y.tmps.getD 110 undef = if (tr == 0) = true then .bool sf else undef := E6.postI (Post := (p_rco db kb tr sa G nn ss kx kq sf hb su)) (a := y) (w := w) D' (hwt 6 (hw 6 (by simp)))
    have wt : Region.wanted o (yielded ops y.tmps) = ((tr == 0) && sf) := by
      rw [wanted_if E6 hg (by rw [hsz, ha0]; decide) gv]
      cases sf <;> cases (tr == 0) <;> rfl
    cases hc : ((tr == 0) && sf)
    · exact .inr ⟨wt.trans hc, hK _ _ (fun _ _ _ _ _ _ h => h) (by show undef = if ((tr == 0) && sf) = true then .int .i64 nn else undef; rw [hc]; rfl) hinv⟩
    · have f111 : y.eval (Operand.tmp 111) = .pointer (some ⟨db, 2, none⟩) := (show y.eval (Operand.tmp 111) = (if ((tr == 0) && sf) = true then .pointer (some ⟨db, 2, none⟩) else undef) from E7.postI (Post := (p_rco db kb tr sa G nn ss kx kq sf hb su)) (a := y) (w := w) D' (hwt 7 (hw 7 (by simp)))).trans (if_pos hc)
      have h0 := hinv.cell k_db_2 (fun h => h)
      exact .inl ⟨wt.trans hc, wp_value (ox_load (v := .int .i64 nn) ho f111 (by simp [go_sem, h0])) (hK _ _ (fun _ _ _ _ _ _ h => h) (by show _ = if ((tr == 0) && sf) = true then .int .i64 nn else undef; rw [hc]; rfl) hinv)⟩
  have s9 : ∀ o, ops[9]? = some o → StepI Try.prog ops (p_rco db kb tr sa G nn ss kx kq sf hb su) (fun (_ : Array Bool) (_ : Act) (w : World) => Mod (fun _ => False) w0 w) aZ Q 9 o := by
    refine E9.stepI fun o hd ho hg hw => ?_
    intro y w listed hsz hls hun hwt hdown D' hRR hinv K hK
    have gv : y.tmps.getD 110 undef = if (tr == 0) = true then .bool sf else undef := E6.postI (Post := (p_rco db kb tr sa G nn ss kx kq sf hb su)) (a := y) (w := w) D' (hwt 6 (hw 6 (by simp)))
    have wt : Region.wanted o (yielded ops y.tmps) = ((tr == 0) && sf) := by
      rw [wanted_if E6 hg (by rw [hsz, ha0]; decide) gv]
      cases sf <;> cases (tr == 0) <;> rfl
    cases hc : ((tr == 0) && sf)
    · exact .inr ⟨wt.trans hc, hK _ _ (fun _ _ _ _ _ _ h => h) (by show undef = if ((tr == 0) && sf) = true then .int .i64 sa else undef; rw [hc]; rfl) hinv⟩
    · have f2 : y.eval (Operand.tmp 2) = .int .i64 sa   := (hRR 2 (not_of (by rw [hds]; decide))).trans bS2
      exact .inl ⟨wt.trans hc, wp_value (ox_move ho f2) (hK _ _ (fun _ _ _ _ _ _ h => h) (by show _ = if ((tr == 0) && sf) = true then .int .i64 sa else undef; rw [hc]; rfl) hinv)⟩
  have s10 : ∀ o, ops[10]? = some o → StepI Try.prog ops (p_rco db kb tr sa G nn ss kx kq sf hb su) (fun (_ : Array Bool) (_ : Act) (w : World) => Mod (fun _ => False) w0 w) aZ Q 10 o := by
    refine E10.stepI fun o hd ho hg hw => ?_
    intro y w listed hsz hls hun hwt hdown D' hRR hinv K hK
    have gv : y.tmps.getD 110 undef = if (tr == 0) = true then .bool sf else undef := E6.postI (Post := (p_rco db kb tr sa G nn ss kx kq sf hb su)) (a := y) (w := w) D' (hwt 6 (hw 6 (by simp)))
    have wt : Region.wanted o (yielded ops y.tmps) = ((tr == 0) && sf) := by
      rw [wanted_if E6 hg (by rw [hsz, ha0]; decide) gv]
      cases sf <;> cases (tr == 0) <;> rfl
    cases hc : ((tr == 0) && sf)
    · exact .inr ⟨wt.trans hc, hK _ _ (fun _ _ _ _ _ _ h => h) (by show undef = if ((tr == 0) && sf) = true then .bool (decide (sa < nn)) else undef; rw [hc]; rfl) hinv⟩
    · have f112 : y.eval (Operand.tmp 112) = .int .i64 nn := (show y.eval (Operand.tmp 112) = (if ((tr == 0) && sf) = true then .int .i64 nn else undef) from E8.postI (Post := (p_rco db kb tr sa G nn ss kx kq sf hb su)) (a := y) (w := w) D' (hwt 8 (hw 8 (by simp)))).trans (if_pos hc)
      have f113 : y.eval (Operand.tmp 113) = .int .i64 sa := (show y.eval (Operand.tmp 113) = (if ((tr == 0) && sf) = true then .int .i64 sa else undef) from E9.postI (Post := (p_rco db kb tr sa G nn ss kx kq sf hb su)) (a := y) (w := w) D' (hwt 9 (hw 9 (by simp)))).trans (if_pos hc)
      exact .inl ⟨wt.trans hc, wp_value (rx_gtr ho f112 f113) (hK _ _ (fun _ _ _ _ _ _ h => h) (by show _ = if ((tr == 0) && sf) = true then .bool (decide (sa < nn)) else undef; rw [hc]; rfl) hinv)⟩
  have s11 : ∀ o, ops[11]? = some o → StepI Try.prog ops (p_rco db kb tr sa G nn ss kx kq sf hb su) (fun (_ : Array Bool) (_ : Act) (w : World) => Mod (fun _ => False) w0 w) aZ Q 11 o := by
    refine E11.stepI fun o hd ho hg hw => ?_
    intro y w listed hsz hls hun hwt hdown D' hRR hinv K hK
    have gv : y.tmps.getD 106 undef = .bool (tr == 0) := E2.postI (Post := (p_rco db kb tr sa G nn ss kx kq sf hb su)) (a := y) (w := w) D' (hwt 2 (hw 2 (by simp)))
    have wt : Region.wanted o (yielded ops y.tmps) = (tr == 0) := by
      rw [wanted_b E2 hg (by rw [hsz, ha0]; decide) gv]
      cases (tr == 0) <;> rfl
    cases hc : (tr == 0)
    · exact .inr ⟨wt.trans hc, hK _ _ (fun _ _ _ _ _ _ h => h) (by show undef = if (tr == 0) = true then .bool (sf && (decide (sa < nn))) else undef; rw [hc]; rfl) hinv⟩
    · have f110 : y.eval (Operand.tmp 110) = .bool sf := (show y.eval (Operand.tmp 110) = (if (tr == 0) = true then .bool sf else undef) from E6.postI (Post := (p_rco db kb tr sa G nn ss kx kq sf hb su)) (a := y) (w := w) D' (hwt 6 (hw 6 (by simp)))).trans (if_pos hc)
      have f114 : y.eval (Operand.tmp 114) = if ((tr == 0) && sf) = true then .bool (decide (sa < nn)) else undef := E10.postI (Post := (p_rco db kb tr sa G nn ss kx kq sf hb su)) (a := y) (w := w) D' (hwt 10 (hw 10 (by simp)))
      exact .inl ⟨wt.trans hc, wp_value (ox_pick (v := .bool (sf && (decide (sa < nn)))) ho f110 (by rw [f114]; try rw [hc]; cases sf <;> (first | rfl | (simp only [hc]; rfl) | (simp [hc]; done) | (simp [hc]; rfl)))) (hK _ _ (fun _ _ _ _ _ _ h => h) (by show _ = if (tr == 0) = true then .bool (sf && (decide (sa < nn))) else undef; rw [hc]; rfl) hinv)⟩
  have s12 : ∀ o, ops[12]? = some o → StepI Try.prog ops (p_rco db kb tr sa G nn ss kx kq sf hb su) (fun (_ : Array Bool) (_ : Act) (w : World) => Mod (fun _ => False) w0 w) aZ Q 12 o := by
    refine E12.stepI fun o hd ho hg hw => ?_
    intro y w listed hsz hls hun hwt hdown D' hRR hinv K hK
    have gv : y.tmps.getD 106 undef = .bool (tr == 0) := E2.postI (Post := (p_rco db kb tr sa G nn ss kx kq sf hb su)) (a := y) (w := w) D' (hwt 2 (hw 2 (by simp)))
    have wt : Region.wanted o (yielded ops y.tmps) = (tr == 0) := by
      rw [wanted_b E2 hg (by rw [hsz, ha0]; decide) gv]
      cases (tr == 0) <;> rfl
    cases hc : (tr == 0)
    · exact .inr ⟨wt.trans hc, hK _ _ (fun _ _ _ _ _ _ h => h) (by show undef = if (tr == 0) = true then .bool (sf && (decide (sa < nn))) else undef; rw [hc]; rfl) hinv⟩
    · have f115 : y.eval (Operand.tmp 115) = .bool (sf && (decide (sa < nn))) := (show y.eval (Operand.tmp 115) = (if (tr == 0) = true then .bool (sf && (decide (sa < nn))) else undef) from E11.postI (Post := (p_rco db kb tr sa G nn ss kx kq sf hb su)) (a := y) (w := w) D' (hwt 11 (hw 11 (by simp)))).trans (if_pos hc)
      exact .inl ⟨wt.trans hc, wp_value (ox_move ho f115) (hK _ _ (fun _ _ _ _ _ _ h => h) (by show _ = if (tr == 0) = true then .bool (sf && (decide (sa < nn))) else undef; rw [hc]; rfl) hinv)⟩
  have s13 : ∀ o, ops[13]? = some o → StepI Try.prog ops (p_rco db kb tr sa G nn ss kx kq sf hb su) (fun (_ : Array Bool) (_ : Act) (w : World) => Mod (fun _ => False) w0 w) aZ Q 13 o := by
    refine E13.stepI fun o hd ho hg hw => ?_
    intro y w listed hsz hls hun hwt hdown D' hRR hinv K hK
    have gv : y.tmps.getD 116 undef = if (tr == 0) = true then .bool (sf && (decide (sa < nn))) else undef := E12.postI (Post := (p_rco db kb tr sa G nn ss kx kq sf hb su)) (a := y) (w := w) D' (hwt 12 (hw 12 (by simp)))
    have wt : Region.wanted o (yielded ops y.tmps) = ((tr == 0) && (!(sf && (decide (sa < nn))))) := by
      rw [wanted_if E12 hg (by rw [hsz, ha0]; decide) gv]
      cases (sf && (decide (sa < nn))) <;> cases (tr == 0) <;> rfl
    cases hc : ((tr == 0) && (!(sf && (decide (sa < nn)))))
    · exact .inr ⟨wt.trans hc, hK _ _ (fun _ _ _ _ _ _ h => h) (by show undef = if ((tr == 0) && (!(sf && (decide (sa < nn))))) = true then .pointer (some ⟨db, 2, none⟩) else undef; rw [hc]; rfl) hinv⟩
    · have f17 : y.eval (Operand.tmp 17) = .pointer (some ⟨db, 0, none⟩)   := (hRR 17 (not_of (by rw [hds]; decide))).trans bS17
      exact .inl ⟨wt.trans hc, wp_value (ox_field (v := .pointer (some ⟨db, 2, none⟩)) ho f17 (by simp [go_sem])) (hK _ _ (fun _ _ _ _ _ _ h => h) (by show _ = if ((tr == 0) && (!(sf && (decide (sa < nn))))) = true then .pointer (some ⟨db, 2, none⟩) else undef; rw [hc]; rfl) hinv)⟩
  have s14 : ∀ o, ops[14]? = some o → StepI Try.prog ops (p_rco db kb tr sa G nn ss kx kq sf hb su) (fun (_ : Array Bool) (_ : Act) (w : World) => Mod (fun _ => False) w0 w) aZ Q 14 o := by
    refine E14.stepI fun o hd ho hg hw => ?_
    intro y w listed hsz hls hun hwt hdown D' hRR hinv K hK
    have gv : y.tmps.getD 116 undef = if (tr == 0) = true then .bool (sf && (decide (sa < nn))) else undef := E12.postI (Post := (p_rco db kb tr sa G nn ss kx kq sf hb su)) (a := y) (w := w) D' (hwt 12 (hw 12 (by simp)))
    have wt : Region.wanted o (yielded ops y.tmps) = ((tr == 0) && (!(sf && (decide (sa < nn))))) := by
      rw [wanted_if E12 hg (by rw [hsz, ha0]; decide) gv]
      cases (sf && (decide (sa < nn))) <;> cases (tr == 0) <;> rfl
    cases hc : ((tr == 0) && (!(sf && (decide (sa < nn)))))
    · exact .inr ⟨wt.trans hc, hK _ _ (fun _ _ _ _ _ _ h => h) (by show undef = if ((tr == 0) && (!(sf && (decide (sa < nn))))) = true then .int .i64 nn else undef; rw [hc]; rfl) hinv⟩
    · have f117 : y.eval (Operand.tmp 117) = .pointer (some ⟨db, 2, none⟩) := (show y.eval (Operand.tmp 117) = (if ((tr == 0) && (!(sf && (decide (sa < nn))))) = true then .pointer (some ⟨db, 2, none⟩) else undef) from E13.postI (Post := (p_rco db kb tr sa G nn ss kx kq sf hb su)) (a := y) (w := w) D' (hwt 13 (hw 13 (by simp)))).trans (if_pos hc)
      have h0 := hinv.cell k_db_2 (fun h => h)
      exact .inl ⟨wt.trans hc, wp_value (ox_load (v := .int .i64 nn) ho f117 (by simp [go_sem, h0])) (hK _ _ (fun _ _ _ _ _ _ h => h) (by show _ = if ((tr == 0) && (!(sf && (decide (sa < nn))))) = true then .int .i64 nn else undef; rw [hc]; rfl) hinv)⟩
  have s15 : ∀ o, ops[15]? = some o → StepI Try.prog ops (p_rco db kb tr sa G nn ss kx kq sf hb su) (fun (_ : Array Bool) (_ : Act) (w : World) => Mod (fun _ => False) w0 w) aZ Q 15 o := by
    refine E15.stepI fun o hd ho hg hw => ?_
    intro y w listed hsz hls hun hwt hdown D' hRR hinv K hK
    have gv : y.tmps.getD 116 undef = if (tr == 0) = true then .bool (sf && (decide (sa < nn))) else undef := E12.postI (Post := (p_rco db kb tr sa G nn ss kx kq sf hb su)) (a := y) (w := w) D' (hwt 12 (hw 12 (by simp)))
    have wt : Region.wanted o (yielded ops y.tmps) = ((tr == 0) && (!(sf && (decide (sa < nn))))) := by
      rw [wanted_if E12 hg (by rw [hsz, ha0]; decide) gv]
      cases (sf && (decide (sa < nn))) <;> cases (tr == 0) <;> rfl
    cases hc : ((tr == 0) && (!(sf && (decide (sa < nn)))))
    · exact .inr ⟨wt.trans hc, hK _ _ (fun _ _ _ _ _ _ h => h) (by show undef = if ((tr == 0) && (!(sf && (decide (sa < nn))))) = true then .int .i64 G else undef; rw [hc]; rfl) hinv⟩
    · have f13 : y.eval (Operand.tmp 13) = .int .i64 G   := (hRR 13 (not_of (by rw [hds]; decide))).trans bS13
      exact .inl ⟨wt.trans hc, wp_value (ox_move ho f13) (hK _ _ (fun _ _ _ _ _ _ h => h) (by show _ = if ((tr == 0) && (!(sf && (decide (sa < nn))))) = true then .int .i64 G else undef; rw [hc]; rfl) hinv)⟩
  have s16 : ∀ o, ops[16]? = some o → StepI Try.prog ops (p_rco db kb tr sa G nn ss kx kq sf hb su) (fun (_ : Array Bool) (_ : Act) (w : World) => Mod (fun _ => False) w0 w) aZ Q 16 o := by
    refine E16.stepI fun o hd ho hg hw => ?_
    intro y w listed hsz hls hun hwt hdown D' hRR hinv K hK
    have gv : y.tmps.getD 116 undef = if (tr == 0) = true then .bool (sf && (decide (sa < nn))) else undef := E12.postI (Post := (p_rco db kb tr sa G nn ss kx kq sf hb su)) (a := y) (w := w) D' (hwt 12 (hw 12 (by simp)))
    have wt : Region.wanted o (yielded ops y.tmps) = ((tr == 0) && (!(sf && (decide (sa < nn))))) := by
      rw [wanted_if E12 hg (by rw [hsz, ha0]; decide) gv]
      cases (sf && (decide (sa < nn))) <;> cases (tr == 0) <;> rfl
    cases hc : ((tr == 0) && (!(sf && (decide (sa < nn)))))
    · exact .inr ⟨wt.trans hc, hK _ _ (fun _ _ _ _ _ _ h => h) (by show undef = if ((tr == 0) && (!(sf && (decide (sa < nn))))) = true then .bool (decide (G < nn)) else undef; rw [hc]; rfl) hinv⟩
    · have f118 : y.eval (Operand.tmp 118) = .int .i64 nn := (show y.eval (Operand.tmp 118) = (if ((tr == 0) && (!(sf && (decide (sa < nn))))) = true then .int .i64 nn else undef) from E14.postI (Post := (p_rco db kb tr sa G nn ss kx kq sf hb su)) (a := y) (w := w) D' (hwt 14 (hw 14 (by simp)))).trans (if_pos hc)
      have f119 : y.eval (Operand.tmp 119) = .int .i64 G := (show y.eval (Operand.tmp 119) = (if ((tr == 0) && (!(sf && (decide (sa < nn))))) = true then .int .i64 G else undef) from E15.postI (Post := (p_rco db kb tr sa G nn ss kx kq sf hb su)) (a := y) (w := w) D' (hwt 15 (hw 15 (by simp)))).trans (if_pos hc)
      exact .inl ⟨wt.trans hc, wp_value (rx_gtr ho f118 f119) (hK _ _ (fun _ _ _ _ _ _ h => h) (by show _ = if ((tr == 0) && (!(sf && (decide (sa < nn))))) = true then .bool (decide (G < nn)) else undef; rw [hc]; rfl) hinv)⟩
  have s17 : ∀ o, ops[17]? = some o → StepI Try.prog ops (p_rco db kb tr sa G nn ss kx kq sf hb su) (fun (_ : Array Bool) (_ : Act) (w : World) => Mod (fun _ => False) w0 w) aZ Q 17 o := by
    refine E17.stepI fun o hd ho hg hw => ?_
    intro y w listed hsz hls hun hwt hdown D' hRR hinv K hK
    have gv : y.tmps.getD 106 undef = .bool (tr == 0) := E2.postI (Post := (p_rco db kb tr sa G nn ss kx kq sf hb su)) (a := y) (w := w) D' (hwt 2 (hw 2 (by simp)))
    have wt : Region.wanted o (yielded ops y.tmps) = (tr == 0) := by
      rw [wanted_b E2 hg (by rw [hsz, ha0]; decide) gv]
      cases (tr == 0) <;> rfl
    cases hc : (tr == 0)
    · exact .inr ⟨wt.trans hc, hK _ _ (fun _ _ _ _ _ _ h => h) (by show undef = if (tr == 0) = true then .bool ((sf && (decide (sa < nn))) || (decide (G < nn))) else undef; rw [hc]; rfl) hinv⟩
    · have f116 : y.eval (Operand.tmp 116) = .bool (sf && (decide (sa < nn))) := (show y.eval (Operand.tmp 116) = (if (tr == 0) = true then .bool (sf && (decide (sa < nn))) else undef) from E12.postI (Post := (p_rco db kb tr sa G nn ss kx kq sf hb su)) (a := y) (w := w) D' (hwt 12 (hw 12 (by simp)))).trans (if_pos hc)
      have f120 : y.eval (Operand.tmp 120) = if ((tr == 0) && (!(sf && (decide (sa < nn))))) = true then .bool (decide (G < nn)) else undef := E16.postI (Post := (p_rco db kb tr sa G nn ss kx kq sf hb su)) (a := y) (w := w) D' (hwt 16 (hw 16 (by simp)))
      exact .inl ⟨wt.trans hc, wp_value (ox_pick (v := .bool ((sf && (decide (sa < nn))) || (decide (G < nn)))) ho f116 (by rw [f120]; try rw [hc]; cases (sf && (decide (sa < nn))) <;> (first | rfl | (simp only [hc]; rfl) | (simp [hc]; done) | (simp [hc]; rfl)))) (hK _ _ (fun _ _ _ _ _ _ h => h) (by show _ = if (tr == 0) = true then .bool ((sf && (decide (sa < nn))) || (decide (G < nn))) else undef; rw [hc]; rfl) hinv)⟩
  have s18 : ∀ o, ops[18]? = some o → StepI Try.prog ops (p_rco db kb tr sa G nn ss kx kq sf hb su) (fun (_ : Array Bool) (_ : Act) (w : World) => Mod (fun _ => False) w0 w) aZ Q 18 o := by
    refine E18.stepI fun o hd ho hg hw => ?_
    intro y w listed hsz hls hun hwt hdown D' hRR hinv K hK
    have f106 : y.eval (Operand.tmp 106) = .bool (tr == 0) := E2.postI (Post := (p_rco db kb tr sa G nn ss kx kq sf hb su)) (a := y) (w := w) D' (hwt 2 (hw 2 (by simp)))
    have f121 : y.eval (Operand.tmp 121) = if (tr == 0) = true then .bool ((sf && (decide (sa < nn))) || (decide (G < nn))) else undef := E17.postI (Post := (p_rco db kb tr sa G nn ss kx kq sf hb su)) (a := y) (w := w) D' (hwt 17 (hw 17 (by simp)))
    exact .inl ⟨wanted_none hg, wp_value (ox_pick (v := .bool ((tr == 0) && ((sf && (decide (sa < nn))) || (decide (G < nn))))) ho f106 (by rw [f121]; skip; cases (tr == 0) <;> rfl)) (hK _ _ (fun _ _ _ _ _ _ h => h) rfl hinv)⟩
  have s19 : ∀ o, ops[19]? = some o → StepI Try.prog ops (p_rco db kb tr sa G nn ss kx kq sf hb su) (fun (_ : Array Bool) (_ : Act) (w : World) => Mod (fun _ => False) w0 w) aZ Q 19 o := by
    refine E19.stepI fun o hd ho hg hw => ?_
    intro y w listed hsz hls hun hwt hdown D' hRR hinv K hK
    have f122 : y.eval (Operand.tmp 122) = .bool ((tr == 0) && ((sf && (decide (sa < nn))) || (decide (G < nn)))) := E18.postI (Post := (p_rco db kb tr sa G nn ss kx kq sf hb su)) (a := y) (w := w) D' (hwt 18 (hw 18 (by simp)))
    exact .inl ⟨wanted_none hg, wp_value (ox_move ho f122) (hK _ _ (fun _ _ _ _ _ _ h => h) rfl hinv)⟩
  have s20 : ∀ o, ops[20]? = some o → StepI Try.prog ops (p_rco db kb tr sa G nn ss kx kq sf hb su) (fun (_ : Array Bool) (_ : Act) (w : World) => Mod (fun _ => False) w0 w) aZ Q 20 o := by
    refine E20.stepI fun o hd ho hg hw => ?_
    intro y w listed hsz hls hun hwt hdown D' hRR hinv K hK
    have gv : y.tmps.getD 123 undef = .bool ((tr == 0) && ((sf && (decide (sa < nn))) || (decide (G < nn)))) := E19.postI (Post := (p_rco db kb tr sa G nn ss kx kq sf hb su)) (a := y) (w := w) D' (hwt 19 (hw 19 (by simp)))
    have wt : Region.wanted o (yielded ops y.tmps) = (!((tr == 0) && ((sf && (decide (sa < nn))) || (decide (G < nn))))) := by
      rw [wanted_b E19 hg (by rw [hsz, ha0]; decide) gv]
      cases ((tr == 0) && ((sf && (decide (sa < nn))) || (decide (G < nn)))) <;> rfl
    cases hc : (!((tr == 0) && ((sf && (decide (sa < nn))) || (decide (G < nn)))))
    · exact .inr ⟨wt.trans hc, hK _ _ (fun _ _ _ _ _ _ h => h) (by show undef = if (!((tr == 0) && ((sf && (decide (sa < nn))) || (decide (G < nn))))) = true then .pointer (some ⟨db, 2, none⟩) else undef; rw [hc]; rfl) hinv⟩
    · have f17 : y.eval (Operand.tmp 17) = .pointer (some ⟨db, 0, none⟩)   := (hRR 17 (not_of (by rw [hds]; decide))).trans bS17
      exact .inl ⟨wt.trans hc, wp_value (ox_field (v := .pointer (some ⟨db, 2, none⟩)) ho f17 (by simp [go_sem])) (hK _ _ (fun _ _ _ _ _ _ h => h) (by show _ = if (!((tr == 0) && ((sf && (decide (sa < nn))) || (decide (G < nn))))) = true then .pointer (some ⟨db, 2, none⟩) else undef; rw [hc]; rfl) hinv)⟩
  have s21 : ∀ o, ops[21]? = some o → StepI Try.prog ops (p_rco db kb tr sa G nn ss kx kq sf hb su) (fun (_ : Array Bool) (_ : Act) (w : World) => Mod (fun _ => False) w0 w) aZ Q 21 o := by
    refine E21.stepI fun o hd ho hg hw => ?_
    intro y w listed hsz hls hun hwt hdown D' hRR hinv K hK
    have gv : y.tmps.getD 123 undef = .bool ((tr == 0) && ((sf && (decide (sa < nn))) || (decide (G < nn)))) := E19.postI (Post := (p_rco db kb tr sa G nn ss kx kq sf hb su)) (a := y) (w := w) D' (hwt 19 (hw 19 (by simp)))
    have wt : Region.wanted o (yielded ops y.tmps) = (!((tr == 0) && ((sf && (decide (sa < nn))) || (decide (G < nn))))) := by
      rw [wanted_b E19 hg (by rw [hsz, ha0]; decide) gv]
      cases ((tr == 0) && ((sf && (decide (sa < nn))) || (decide (G < nn)))) <;> rfl
    cases hc : (!((tr == 0) && ((sf && (decide (sa < nn))) || (decide (G < nn)))))
    · exact .inr ⟨wt.trans hc, hK _ _ (fun _ _ _ _ _ _ h => h) (by show undef = if (!((tr == 0) && ((sf && (decide (sa < nn))) || (decide (G < nn))))) = true then .int .i64 nn else undef; rw [hc]; rfl) hinv⟩
    · have f124 : y.eval (Operand.tmp 124) = .pointer (some ⟨db, 2, none⟩) := (show y.eval (Operand.tmp 124) = (if (!((tr == 0) && ((sf && (decide (sa < nn))) || (decide (G < nn))))) = true then .pointer (some ⟨db, 2, none⟩) else undef) from E20.postI (Post := (p_rco db kb tr sa G nn ss kx kq sf hb su)) (a := y) (w := w) D' (hwt 20 (hw 20 (by simp)))).trans (if_pos hc)
      have h0 := hinv.cell k_db_2 (fun h => h)
      exact .inl ⟨wt.trans hc, wp_value (ox_load (v := .int .i64 nn) ho f124 (by simp [go_sem, h0])) (hK _ _ (fun _ _ _ _ _ _ h => h) (by show _ = if (!((tr == 0) && ((sf && (decide (sa < nn))) || (decide (G < nn))))) = true then .int .i64 nn else undef; rw [hc]; rfl) hinv)⟩
  have s22 : ∀ o, ops[22]? = some o → StepI Try.prog ops (p_rco db kb tr sa G nn ss kx kq sf hb su) (fun (_ : Array Bool) (_ : Act) (w : World) => Mod (fun _ => False) w0 w) aZ Q 22 o := by
    refine E22.stepI fun o hd ho hg hw => ?_
    intro y w listed hsz hls hun hwt hdown D' hRR hinv K hK
    have gv : y.tmps.getD 123 undef = .bool ((tr == 0) && ((sf && (decide (sa < nn))) || (decide (G < nn)))) := E19.postI (Post := (p_rco db kb tr sa G nn ss kx kq sf hb su)) (a := y) (w := w) D' (hwt 19 (hw 19 (by simp)))
    have wt : Region.wanted o (yielded ops y.tmps) = (!((tr == 0) && ((sf && (decide (sa < nn))) || (decide (G < nn))))) := by
      rw [wanted_b E19 hg (by rw [hsz, ha0]; decide) gv]
      cases ((tr == 0) && ((sf && (decide (sa < nn))) || (decide (G < nn)))) <;> rfl
    cases hc : (!((tr == 0) && ((sf && (decide (sa < nn))) || (decide (G < nn)))))
    · exact .inr ⟨wt.trans hc, hK _ _ (fun _ _ _ _ _ _ h => h) (by show undef = if (!((tr == 0) && ((sf && (decide (sa < nn))) || (decide (G < nn))))) = true then .int .i64 G else undef; rw [hc]; rfl) hinv⟩
    · have f13 : y.eval (Operand.tmp 13) = .int .i64 G   := (hRR 13 (not_of (by rw [hds]; decide))).trans bS13
      exact .inl ⟨wt.trans hc, wp_value (ox_move ho f13) (hK _ _ (fun _ _ _ _ _ _ h => h) (by show _ = if (!((tr == 0) && ((sf && (decide (sa < nn))) || (decide (G < nn))))) = true then .int .i64 G else undef; rw [hc]; rfl) hinv)⟩
  have s23 : ∀ o, ops[23]? = some o → StepI Try.prog ops (p_rco db kb tr sa G nn ss kx kq sf hb su) (fun (_ : Array Bool) (_ : Act) (w : World) => Mod (fun _ => False) w0 w) aZ Q 23 o := by
    refine E23.stepI fun o hd ho hg hw => ?_
    intro y w listed hsz hls hun hwt hdown D' hRR hinv K hK
    have gv : y.tmps.getD 123 undef = .bool ((tr == 0) && ((sf && (decide (sa < nn))) || (decide (G < nn)))) := E19.postI (Post := (p_rco db kb tr sa G nn ss kx kq sf hb su)) (a := y) (w := w) D' (hwt 19 (hw 19 (by simp)))
    have wt : Region.wanted o (yielded ops y.tmps) = (!((tr == 0) && ((sf && (decide (sa < nn))) || (decide (G < nn))))) := by
      rw [wanted_b E19 hg (by rw [hsz, ha0]; decide) gv]
      cases ((tr == 0) && ((sf && (decide (sa < nn))) || (decide (G < nn)))) <;> rfl
    cases hc : (!((tr == 0) && ((sf && (decide (sa < nn))) || (decide (G < nn)))))
    · exact .inr ⟨wt.trans hc, hK _ _ (fun _ _ _ _ _ _ h => h) (by show undef = if (!((tr == 0) && ((sf && (decide (sa < nn))) || (decide (G < nn))))) = true then .bool (decide (G < nn)) else undef; rw [hc]; rfl) hinv⟩
    · have f125 : y.eval (Operand.tmp 125) = .int .i64 nn := (show y.eval (Operand.tmp 125) = (if (!((tr == 0) && ((sf && (decide (sa < nn))) || (decide (G < nn))))) = true then .int .i64 nn else undef) from E21.postI (Post := (p_rco db kb tr sa G nn ss kx kq sf hb su)) (a := y) (w := w) D' (hwt 21 (hw 21 (by simp)))).trans (if_pos hc)
      have f126 : y.eval (Operand.tmp 126) = .int .i64 G := (show y.eval (Operand.tmp 126) = (if (!((tr == 0) && ((sf && (decide (sa < nn))) || (decide (G < nn))))) = true then .int .i64 G else undef) from E22.postI (Post := (p_rco db kb tr sa G nn ss kx kq sf hb su)) (a := y) (w := w) D' (hwt 22 (hw 22 (by simp)))).trans (if_pos hc)
      exact .inl ⟨wt.trans hc, wp_value (rx_gtr ho f125 f126) (hK _ _ (fun _ _ _ _ _ _ h => h) (by show _ = if (!((tr == 0) && ((sf && (decide (sa < nn))) || (decide (G < nn))))) = true then .bool (decide (G < nn)) else undef; rw [hc]; rfl) hinv)⟩
  have s24 : ∀ o, ops[24]? = some o → StepI Try.prog ops (p_rco db kb tr sa G nn ss kx kq sf hb su) (fun (_ : Array Bool) (_ : Act) (w : World) => Mod (fun _ => False) w0 w) aZ Q 24 o := by
    refine E24.stepI fun o hd ho hg hw => ?_
    intro y w listed hsz hls hun hwt hdown D' hRR hinv K hK
    have gv : y.tmps.getD 123 undef = .bool ((tr == 0) && ((sf && (decide (sa < nn))) || (decide (G < nn)))) := E19.postI (Post := (p_rco db kb tr sa G nn ss kx kq sf hb su)) (a := y) (w := w) D' (hwt 19 (hw 19 (by simp)))
    have wt : Region.wanted o (yielded ops y.tmps) = (!((tr == 0) && ((sf && (decide (sa < nn))) || (decide (G < nn))))) := by
      rw [wanted_b E19 hg (by rw [hsz, ha0]; decide) gv]
      cases ((tr == 0) && ((sf && (decide (sa < nn))) || (decide (G < nn)))) <;> rfl
    cases hc : (!((tr == 0) && ((sf && (decide (sa < nn))) || (decide (G < nn)))))
    · exact .inr ⟨wt.trans hc, hK _ _ (fun _ _ _ _ _ _ h => h) (by show undef = if (!((tr == 0) && ((sf && (decide (sa < nn))) || (decide (G < nn))))) = true then .bool (decide (G < nn)) else undef; rw [hc]; rfl) hinv⟩
    · have f127 : y.eval (Operand.tmp 127) = .bool (decide (G < nn)) := (show y.eval (Operand.tmp 127) = (if (!((tr == 0) && ((sf && (decide (sa < nn))) || (decide (G < nn))))) = true then .bool (decide (G < nn)) else undef) from E23.postI (Post := (p_rco db kb tr sa G nn ss kx kq sf hb su)) (a := y) (w := w) D' (hwt 23 (hw 23 (by simp)))).trans (if_pos hc)
      exact .inl ⟨wt.trans hc, wp_value (ox_move ho f127) (hK _ _ (fun _ _ _ _ _ _ h => h) (by show _ = if (!((tr == 0) && ((sf && (decide (sa < nn))) || (decide (G < nn))))) = true then .bool (decide (G < nn)) else undef; rw [hc]; rfl) hinv)⟩
  have s25 : ∀ o, ops[25]? = some o → StepI Try.prog ops (p_rco db kb tr sa G nn ss kx kq sf hb su) (fun (_ : Array Bool) (_ : Act) (w : World) => Mod (fun _ => False) w0 w) aZ Q 25 o := by
    refine E25.stepI fun o hd ho hg hw => ?_
    intro y w listed hsz hls hun hwt hdown D' hRR hinv K hK
    have gv : y.tmps.getD 128 undef = if (!((tr == 0) && ((sf && (decide (sa < nn))) || (decide (G < nn))))) = true then .bool (decide (G < nn)) else undef := E24.postI (Post := (p_rco db kb tr sa G nn ss kx kq sf hb su)) (a := y) (w := w) D' (hwt 24 (hw 24 (by simp)))
    have wt : Region.wanted o (yielded ops y.tmps) = ((!((tr == 0) && ((sf && (decide (sa < nn))) || (decide (G < nn))))) && (decide (G < nn))) := by
      rw [wanted_if E24 hg (by rw [hsz, ha0]; decide) gv]
      cases (decide (G < nn)) <;> cases (!((tr == 0) && ((sf && (decide (sa < nn))) || (decide (G < nn))))) <;> rfl
    cases hc : ((!((tr == 0) && ((sf && (decide (sa < nn))) || (decide (G < nn))))) && (decide (G < nn)))
    · exact .inr ⟨wt.trans hc, hK _ _ (fun _ _ _ _ _ _ h => h) (by show undef = if ((!((tr == 0) && ((sf && (decide (sa < nn))) || (decide (G < nn))))) && (decide (G < nn))) = true then .agg #[su, .int .i64 kx] else undef; rw [hc]; rfl) hinv⟩
    · have f3 : y.eval (Operand.tmp 3) = .pointer (some ⟨kb, 0, none⟩)   := (hRR 3 (not_of (by rw [hds]; decide))).trans bS3
      have h0 := hinv.cell k_kb_0 (fun h => h)
      have h1 := hinv.cell k_kb_1 (fun h => h)
      exact .inl ⟨wt.trans hc, wp_value (ox_load (v := .agg #[su, .int .i64 kx]) ho f3 (by simp [go_sem, h0, h1])) (hK _ _ (fun _ _ _ _ _ _ h => h) (by show _ = if ((!((tr == 0) && ((sf && (decide (sa < nn))) || (decide (G < nn))))) && (decide (G < nn))) = true then .agg #[su, .int .i64 kx] else undef; rw [hc]; rfl) hinv)⟩
  have s26 : ∀ o, ops[26]? = some o → StepI Try.prog ops (p_rco db kb tr sa G nn ss kx kq sf hb su) (fun (_ : Array Bool) (_ : Act) (w : World) => Mod (fun _ => False) w0 w) aZ Q 26 o := by
    refine E26.stepI fun o hd ho hg hw => ?_
    intro y w listed hsz hls hun hwt hdown D' hRR hinv K hK
    have gv : y.tmps.getD 128 undef = if (!((tr == 0) && ((sf && (decide (sa < nn))) || (decide (G < nn))))) = true then .bool (decide (G < nn)) else undef := E24.postI (Post := (p_rco db kb tr sa G nn ss kx kq sf hb su)) (a := y) (w := w) D' (hwt 24 (hw 24 (by simp)))
    have wt : Region.wanted o (yielded ops y.tmps) = ((!((tr == 0) && ((sf && (decide (sa < nn))) || (decide (G < nn))))) && (decide (G < nn))) := by
      rw [wanted_if E24 hg (by rw [hsz, ha0]; decide) gv]
      cases (decide (G < nn)) <;> cases (!((tr == 0) && ((sf && (decide (sa < nn))) || (decide (G < nn))))) <;> rfl
    cases hc : ((!((tr == 0) && ((sf && (decide (sa < nn))) || (decide (G < nn))))) && (decide (G < nn)))
    · exact .inr ⟨wt.trans hc, hK _ _ (fun _ _ _ _ _ _ h => h) (by show undef = if ((!((tr == 0) && ((sf && (decide (sa < nn))) || (decide (G < nn))))) && (decide (G < nn))) = true then .int .i64 kq else undef; rw [hc]; rfl) hinv⟩
    · have f129 : y.eval (Operand.tmp 129) = .agg #[su, .int .i64 kx] := (show y.eval (Operand.tmp 129) = (if ((!((tr == 0) && ((sf && (decide (sa < nn))) || (decide (G < nn))))) && (decide (G < nn))) = true then .agg #[su, .int .i64 kx] else undef) from E25.postI (Post := (p_rco db kb tr sa G nn ss kx kq sf hb su)) (a := y) (w := w) D' (hwt 25 (hw 25 (by simp)))).trans (if_pos hc)
      refine .inl ⟨wt.trans hc, wp_enter (f := 18) (args := #[.agg #[su, .int .i64 kx]]) ?_ (H26 w  hinv ) ?_⟩
      · have h := exec_call1 y.eval (fun args w => by simp [go_sem]) rfl ho (w := w)
        rw [f129] at h
        exact h
      · rintro e w' ⟨rfl, hm⟩
        exact ⟨_, rfl, hK _ _ (fun j oj d _ _ _ h => hstay _ _ _ _ hm h) (by show _ = if ((!((tr == 0) && ((sf && (decide (sa < nn))) || (decide (G < nn))))) && (decide (G < nn))) = true then .int .i64 kq else undef; rw [hc]; rfl) (hinv.and hm)⟩
  have s27 : ∀ o, ops[27]? = some o → StepI Try.prog ops (p_rco db kb tr sa G nn ss kx kq sf hb su) (fun (_ : Array Bool) (_ : Act) (w : World) => Mod (fun _ => False) w0 w) aZ Q 27 o := by
    refine E27.stepI fun o hd ho hg hw => ?_
    intro y w listed hsz hls hun hwt hdown D' hRR hinv K hK
    have gv : y.tmps.getD 128 undef = if (!((tr == 0) && ((sf && (decide (sa < nn))) || (decide (G < nn))))) = true then .bool (decide (G < nn)) else undef := E24.postI (Post := (p_rco db kb tr sa G nn ss kx kq sf hb su)) (a := y) (w := w) D' (hwt 24 (hw 24 (by simp)))
    have wt : Region.wanted o (yielded ops y.tmps) = ((!((tr == 0) && ((sf && (decide (sa < nn))) || (decide (G < nn))))) && (decide (G < nn))) := by
      rw [wanted_if E24 hg (by rw [hsz, ha0]; decide) gv]
      cases (decide (G < nn)) <;> cases (!((tr == 0) && ((sf && (decide (sa < nn))) || (decide (G < nn))))) <;> rfl
    cases hc : ((!((tr == 0) && ((sf && (decide (sa < nn))) || (decide (G < nn))))) && (decide (G < nn)))
    · exact .inr ⟨wt.trans hc, hK _ _ (fun _ _ _ _ _ _ h => h) (by show undef = if ((!((tr == 0) && ((sf && (decide (sa < nn))) || (decide (G < nn))))) && (decide (G < nn))) = true then .pointer (some ⟨db, 3, none⟩) else undef; rw [hc]; rfl) hinv⟩
    · have f17 : y.eval (Operand.tmp 17) = .pointer (some ⟨db, 0, none⟩)   := (hRR 17 (not_of (by rw [hds]; decide))).trans bS17
      exact .inl ⟨wt.trans hc, wp_value (ox_field (v := .pointer (some ⟨db, 3, none⟩)) ho f17 (by simp [go_sem])) (hK _ _ (fun _ _ _ _ _ _ h => h) (by show _ = if ((!((tr == 0) && ((sf && (decide (sa < nn))) || (decide (G < nn))))) && (decide (G < nn))) = true then .pointer (some ⟨db, 3, none⟩) else undef; rw [hc]; rfl) hinv)⟩
  have s28 : ∀ o, ops[28]? = some o → StepI Try.prog ops (p_rco db kb tr sa G nn ss kx kq sf hb su) (fun (_ : Array Bool) (_ : Act) (w : World) => Mod (fun _ => False) w0 w) aZ Q 28 o := by
    refine E28.stepI fun o hd ho hg hw => ?_
    intro y w listed hsz hls hun hwt hdown D' hRR hinv K hK
    have gv : y.tmps.getD 128 undef = if (!((tr == 0) && ((sf && (decide (sa < nn))) || (decide (G < nn))))) = true then .bool (decide (G < nn)) else undef := E24.postI (Post := (p_rco db kb tr sa G nn ss kx kq sf hb su)) (a := y) (w := w) D' (hwt 24 (hw 24 (by simp)))
    have wt : Region.wanted o (yielded ops y.tmps) = ((!((tr == 0) && ((sf && (decide (sa < nn))) || (decide (G < nn))))) && (decide (G < nn))) := by
      rw [wanted_if E24 hg (by rw [hsz, ha0]; decide) gv]
      cases (decide (G < nn)) <;> cases (!((tr == 0) && ((sf && (decide (sa < nn))) || (decide (G < nn))))) <;> rfl
    cases hc : ((!((tr == 0) && ((sf && (decide (sa < nn))) || (decide (G < nn))))) && (decide (G < nn)))
    · exact .inr ⟨wt.trans hc, hK _ _ (fun _ _ _ _ _ _ h => h) (by show undef = if ((!((tr == 0) && ((sf && (decide (sa < nn))) || (decide (G < nn))))) && (decide (G < nn))) = true then .int .i64 ss else undef; rw [hc]; rfl) hinv⟩
    · have f131 : y.eval (Operand.tmp 131) = .pointer (some ⟨db, 3, none⟩) := (show y.eval (Operand.tmp 131) = (if ((!((tr == 0) && ((sf && (decide (sa < nn))) || (decide (G < nn))))) && (decide (G < nn))) = true then .pointer (some ⟨db, 3, none⟩) else undef) from E27.postI (Post := (p_rco db kb tr sa G nn ss kx kq sf hb su)) (a := y) (w := w) D' (hwt 27 (hw 27 (by simp)))).trans (if_pos hc)
      have h0 := hinv.cell k_db_3 (fun h => h)
      exact .inl ⟨wt.trans hc, wp_value (ox_load (v := .int .i64 ss) ho f131 (by simp [go_sem, h0])) (hK _ _ (fun _ _ _ _ _ _ h => h) (by show _ = if ((!((tr == 0) && ((sf && (decide (sa < nn))) || (decide (G < nn))))) && (decide (G < nn))) = true then .int .i64 ss else undef; rw [hc]; rfl) hinv)⟩
  have s29 : ∀ o, ops[29]? = some o → StepI Try.prog ops (p_rco db kb tr sa G nn ss kx kq sf hb su) (fun (_ : Array Bool) (_ : Act) (w : World) => Mod (fun _ => False) w0 w) aZ Q 29 o := by
    refine E29.stepI fun o hd ho hg hw => ?_
    intro y w listed hsz hls hun hwt hdown D' hRR hinv K hK
    have gv : y.tmps.getD 128 undef = if (!((tr == 0) && ((sf && (decide (sa < nn))) || (decide (G < nn))))) = true then .bool (decide (G < nn)) else undef := E24.postI (Post := (p_rco db kb tr sa G nn ss kx kq sf hb su)) (a := y) (w := w) D' (hwt 24 (hw 24 (by simp)))
    have wt : Region.wanted o (yielded ops y.tmps) = ((!((tr == 0) && ((sf && (decide (sa < nn))) || (decide (G < nn))))) && (decide (G < nn))) := by
      rw [wanted_if E24 hg (by rw [hsz, ha0]; decide) gv]
      cases (decide (G < nn)) <;> cases (!((tr == 0) && ((sf && (decide (sa < nn))) || (decide (G < nn))))) <;> rfl
    cases hc : ((!((tr == 0) && ((sf && (decide (sa < nn))) || (decide (G < nn))))) && (decide (G < nn)))
    · exact .inr ⟨wt.trans hc, hK _ _ (fun _ _ _ _ _ _ h => h) (by show undef = if ((!((tr == 0) && ((sf && (decide (sa < nn))) || (decide (G < nn))))) && (decide (G < nn))) = true then .bool hb else undef; rw [hc]; rfl) hinv⟩
    · have f130 : y.eval (Operand.tmp 130) = .int .i64 kq := (show y.eval (Operand.tmp 130) = (if ((!((tr == 0) && ((sf && (decide (sa < nn))) || (decide (G < nn))))) && (decide (G < nn))) = true then .int .i64 kq else undef) from E26.postI (Post := (p_rco db kb tr sa G nn ss kx kq sf hb su)) (a := y) (w := w) D' (hwt 26 (hw 26 (by simp)))).trans (if_pos hc)
      have f132 : y.eval (Operand.tmp 132) = .int .i64 ss := (show y.eval (Operand.tmp 132) = (if ((!((tr == 0) && ((sf && (decide (sa < nn))) || (decide (G < nn))))) && (decide (G < nn))) = true then .int .i64 ss else undef) from E28.postI (Post := (p_rco db kb tr sa G nn ss kx kq sf hb su)) (a := y) (w := w) D' (hwt 28 (hw 28 (by simp)))).trans (if_pos hc)
      refine .inl ⟨wt.trans hc, wp_enter (f := 23) (args := #[.int .i64 kq, .int .i64 ss]) ?_ (H29 w  hinv ) ?_⟩
      · have h := exec_call2 y.eval (fun args w => by simp [go_sem]) rfl ho (w := w)
        rw [f130, f132] at h
        exact h
      · rintro e w' ⟨rfl, hm⟩
        exact ⟨_, rfl, hK _ _ (fun j oj d _ _ _ h => hstay _ _ _ _ hm h) (by show _ = if ((!((tr == 0) && ((sf && (decide (sa < nn))) || (decide (G < nn))))) && (decide (G < nn))) = true then .bool hb else undef; rw [hc]; rfl) (hinv.and hm)⟩
  have s30 : ∀ o, ops[30]? = some o → StepI Try.prog ops (p_rco db kb tr sa G nn ss kx kq sf hb su) (fun (_ : Array Bool) (_ : Act) (w : World) => Mod (fun _ => False) w0 w) aZ Q 30 o := by
    refine E30.stepI fun o hd ho hg hw => ?_
    intro y w listed hsz hls hun hwt hdown D' hRR hinv K hK
    have gv : y.tmps.getD 128 undef = if (!((tr == 0) && ((sf && (decide (sa < nn))) || (decide (G < nn))))) = true then .bool (decide (G < nn)) else undef := E24.postI (Post := (p_rco db kb tr sa G nn ss kx kq sf hb su)) (a := y) (w := w) D' (hwt 24 (hw 24 (by simp)))
    have wt : Region.wanted o (yielded ops y.tmps) = ((!((tr == 0) && ((sf && (decide (sa < nn))) || (decide (G < nn))))) && (decide (G < nn))) := by
      rw [wanted_if E24 hg (by rw [hsz, ha0]; decide) gv]
      cases (decide (G < nn)) <;> cases (!((tr == 0) && ((sf && (decide (sa < nn))) || (decide (G < nn))))) <;> rfl
    cases hc : ((!((tr == 0) && ((sf && (decide (sa < nn))) || (decide (G < nn))))) && (decide (G < nn)))
    · exact .inr ⟨wt.trans hc, hK _ _ (fun _ _ _ _ _ _ h => h) (by show undef = if ((!((tr == 0) && ((sf && (decide (sa < nn))) || (decide (G < nn))))) && (decide (G < nn))) = true then .bool (!hb) else undef; rw [hc]; rfl) hinv⟩
    · have f133 : y.eval (Operand.tmp 133) = .bool hb := (show y.eval (Operand.tmp 133) = (if ((!((tr == 0) && ((sf && (decide (sa < nn))) || (decide (G < nn))))) && (decide (G < nn))) = true then .bool hb else undef) from E29.postI (Post := (p_rco db kb tr sa G nn ss kx kq sf hb su)) (a := y) (w := w) D' (hwt 29 (hw 29 (by simp)))).trans (if_pos hc)
      exact .inl ⟨wt.trans hc, wp_value (ox_not ho f133) (hK _ _ (fun _ _ _ _ _ _ h => h) (by show _ = if ((!((tr == 0) && ((sf && (decide (sa < nn))) || (decide (G < nn))))) && (decide (G < nn))) = true then .bool (!hb) else undef; rw [hc]; rfl) hinv)⟩
  have s31 : ∀ o, ops[31]? = some o → StepI Try.prog ops (p_rco db kb tr sa G nn ss kx kq sf hb su) (fun (_ : Array Bool) (_ : Act) (w : World) => Mod (fun _ => False) w0 w) aZ Q 31 o := by
    refine E31.stepI fun o hd ho hg hw => ?_
    intro y w listed hsz hls hun hwt hdown D' hRR hinv K hK
    have gv : y.tmps.getD 123 undef = .bool ((tr == 0) && ((sf && (decide (sa < nn))) || (decide (G < nn)))) := E19.postI (Post := (p_rco db kb tr sa G nn ss kx kq sf hb su)) (a := y) (w := w) D' (hwt 19 (hw 19 (by simp)))
    have wt : Region.wanted o (yielded ops y.tmps) = (!((tr == 0) && ((sf && (decide (sa < nn))) || (decide (G < nn))))) := by
      rw [wanted_b E19 hg (by rw [hsz, ha0]; decide) gv]
      cases ((tr == 0) && ((sf && (decide (sa < nn))) || (decide (G < nn)))) <;> rfl
    cases hc : (!((tr == 0) && ((sf && (decide (sa < nn))) || (decide (G < nn)))))
    · exact .inr ⟨wt.trans hc, hK _ _ (fun _ _ _ _ _ _ h => h) (by show undef = if (!((tr == 0) && ((sf && (decide (sa < nn))) || (decide (G < nn))))) = true then .bool ((decide (G < nn)) && (!hb)) else undef; rw [hc]; rfl) hinv⟩
    · have f128 : y.eval (Operand.tmp 128) = .bool (decide (G < nn)) := (show y.eval (Operand.tmp 128) = (if (!((tr == 0) && ((sf && (decide (sa < nn))) || (decide (G < nn))))) = true then .bool (decide (G < nn)) else undef) from E24.postI (Post := (p_rco db kb tr sa G nn ss kx kq sf hb su)) (a := y) (w := w) D' (hwt 24 (hw 24 (by simp)))).trans (if_pos hc)
      have f134 : y.eval (Operand.tmp 134) = if ((!((tr == 0) && ((sf && (decide (sa < nn))) || (decide (G < nn))))) && (decide (G < nn))) = true then .bool (!hb) else undef := E30.postI (Post := (p_rco db kb tr sa G nn ss kx kq sf hb su)) (a := y) (w := w) D' (hwt 30 (hw 30 (by simp)))
      exact .inl ⟨wt.trans hc, wp_value (ox_pick (v := .bool ((decide (G < nn)) && (!hb))) ho f128 (by rw [f134]; try rw [hc]; cases (decide (G < nn)) <;> (first | rfl | (simp only [hc]; rfl) | (simp [hc]; done) | (simp [hc]; rfl)))) (hK _ _ (fun _ _ _ _ _ _ h => h) (by show _ = if (!((tr == 0) && ((sf && (decide (sa < nn))) || (decide (G < nn))))) = true then .bool ((decide (G < nn)) && (!hb)) else undef; rw [hc]; rfl) hinv)⟩
  have s32 : ∀ o, ops[32]? = some o → StepI Try.prog ops (p_rco db kb tr sa G nn ss kx kq sf hb su) (fun (_ : Array Bool) (_ : Act) (w : World) => Mod (fun _ => False) w0 w) aZ Q 32 o := by
    refine E32.stepI fun o hd ho hg hw => ?_
    intro y w listed hsz hls hun hwt hdown D' hRR hinv K hK
    have f123 : y.eval (Operand.tmp 123) = .bool ((tr == 0) && ((sf && (decide (sa < nn))) || (decide (G < nn)))) := E19.postI (Post := (p_rco db kb tr sa G nn ss kx kq sf hb su)) (a := y) (w := w) D' (hwt 19 (hw 19 (by simp)))
    have f135 : y.eval (Operand.tmp 135) = if (!((tr == 0) && ((sf && (decide (sa < nn))) || (decide (G < nn))))) = true then .bool ((decide (G < nn)) && (!hb)) else undef := E31.postI (Post := (p_rco db kb tr sa G nn ss kx kq sf hb su)) (a := y) (w := w) D' (hwt 31 (hw 31 (by simp)))
    exact .inl ⟨wanted_none hg, wp_value (ox_pick (v := .bool (((tr == 0) && ((sf && (decide (sa < nn))) || (decide (G < nn)))) || ((decide (G < nn)) && (!hb)))) ho f123 (by rw [f135]; skip; cases ((tr == 0) && ((sf && (decide (sa < nn))) || (decide (G < nn)))) <;> rfl)) (hK _ _ (fun _ _ _ _ _ _ h => h) rfl hinv)⟩
  refine region_freeI (Post := (p_rco db kb tr sa G nn ss kx kq sf hb su)) (Inv := (fun (_ : Array Bool) (_ : Act) (w : World) => Mod (fun _ => False) w0 w)) mixed (low_of hlow) (fun i o ho => by rw [ha0]; exact dst_of (by rw [hds]; decide) i o ho) (inj_of hnd) (Mod.refl _ _).drew ?_ ?_
  · intro i o ho
    have hi : i < 33 := by
      rw [← hN]
      rcases Nat.lt_or_ge i ops.size with h | h
      · exact h
      · rw [Array.getElem?_eq_none h] at ho; cases ho
    clear hend
    by_cases e0 : i = 0
    · subst e0; exact s0 o ho
    by_cases e1 : i = 1
    · subst e1; exact s1 o ho
    by_cases e2 : i = 2
    · subst e2; exact s2 o ho
    by_cases e3 : i = 3
    · subst e3; exact s3 o ho
    by_cases e4 : i = 4
    · subst e4; exact s4 o ho
    by_cases e5 : i = 5
    · subst e5; exact s5 o ho
    by_cases e6 : i = 6
    · subst e6; exact s6 o ho
    by_cases e7 : i = 7
    · subst e7; exact s7 o ho
    by_cases e8 : i = 8
    · subst e8; exact s8 o ho
    by_cases e9 : i = 9
    · subst e9; exact s9 o ho
    by_cases e10 : i = 10
    · subst e10; exact s10 o ho
    by_cases e11 : i = 11
    · subst e11; exact s11 o ho
    by_cases e12 : i = 12
    · subst e12; exact s12 o ho
    by_cases e13 : i = 13
    · subst e13; exact s13 o ho
    by_cases e14 : i = 14
    · subst e14; exact s14 o ho
    by_cases e15 : i = 15
    · subst e15; exact s15 o ho
    by_cases e16 : i = 16
    · subst e16; exact s16 o ho
    by_cases e17 : i = 17
    · subst e17; exact s17 o ho
    by_cases e18 : i = 18
    · subst e18; exact s18 o ho
    by_cases e19 : i = 19
    · subst e19; exact s19 o ho
    by_cases e20 : i = 20
    · subst e20; exact s20 o ho
    by_cases e21 : i = 21
    · subst e21; exact s21 o ho
    by_cases e22 : i = 22
    · subst e22; exact s22 o ho
    by_cases e23 : i = 23
    · subst e23; exact s23 o ho
    by_cases e24 : i = 24
    · subst e24; exact s24 o ho
    by_cases e25 : i = 25
    · subst e25; exact s25 o ho
    by_cases e26 : i = 26
    · subst e26; exact s26 o ho
    by_cases e27 : i = 27
    · subst e27; exact s27 o ho
    by_cases e28 : i = 28
    · subst e28; exact s28 o ho
    by_cases e29 : i = 29
    · subst e29; exact s29 o ho
    by_cases e30 : i = 30
    · subst e30; exact s30 o ho
    by_cases e31 : i = 31
    · subst e31; exact s31 o ho
    by_cases e32 : i = 32
    · subst e32; exact s32 o ho
    omega
  · intro y w listed hsz hdf hls hall hinv hPO hRE
    have e : y = puts aZ [(104, .int .i64 tr), (105, .bool (tr == 0)), (106, .bool (tr == 0)), (107, y.tmps.getD 107 undef), (108, y.tmps.getD 108 undef), (109, y.tmps.getD 109 undef), (110, y.tmps.getD 110 undef), (111, y.tmps.getD 111 undef), (112, y.tmps.getD 112 undef), (113, y.tmps.getD 113 undef), (114, y.tmps.getD 114 undef), (115, y.tmps.getD 115 undef), (116, y.tmps.getD 116 undef), (117, y.tmps.getD 117 undef), (118, y.tmps.getD 118 undef), (119, y.tmps.getD 119 undef), (120, y.tmps.getD 120 undef), (121, y.tmps.getD 121 undef), (122, .bool ((tr == 0) && ((sf && (decide (sa < nn))) || (decide (G < nn))))), (123, .bool ((tr == 0) && ((sf && (decide (sa < nn))) || (decide (G < nn))))), (124, y.tmps.getD 124 undef), (125, y.tmps.getD 125 undef), (126, y.tmps.getD 126 undef), (127, y.tmps.getD 127 undef), (128, y.tmps.getD 128 undef), (129, y.tmps.getD 129 undef), (130, y.tmps.getD 130 undef), (131, y.tmps.getD 131 undef), (132, y.tmps.getD 132 undef), (133, y.tmps.getD 133 undef), (134, y.tmps.getD 134 undef), (135, y.tmps.getD 135 undef), (136, .bool (((tr == 0) && ((sf && (decide (sa < nn))) || (decide (G < nn)))) || ((decide (G < nn)) && (!hb))))] := by
      refine eq_puts hsz hdf (nodup_of (D := [some 104, some 105, some 106, some 107, some 108, some 109, some 110, some 111, some 112, some 113, some 114, some 115, some 116, some 117, some 118, some 119, some 120, some 121, some 122, some 123, some 124, some 125, some 126, some 127, some 128, some 129, some 130, some 131, some 132, some 133, some 134, some 135, some 136]) rfl (by decide)) (by rw [ha0]; simp) ?_ ?_
      · intro q hq
        simp only [List.mem_cons, List.not_mem_nil, or_false] at hq
        rcases hq with rfl | rfl | rfl | rfl | rfl | rfl | rfl | rfl | rfl | rfl | rfl | rfl | rfl | rfl | rfl | rfl | rfl | rfl | rfl | rfl | rfl | rfl | rfl | rfl | rfl | rfl | rfl | rfl | rfl | rfl | rfl | rfl | rfl
        · obtain ⟨o, h1, h2, _⟩ := E0.ex
          exact hPO 0 o _ h1 h2
        · obtain ⟨o, h1, h2, _⟩ := E1.ex
          exact hPO 1 o _ h1 h2
        · obtain ⟨o, h1, h2, _⟩ := E2.ex
          exact hPO 2 o _ h1 h2
        · rfl
        · rfl
        · rfl
        · rfl
        · rfl
        · rfl
        · rfl
        · rfl
        · rfl
        · rfl
        · rfl
        · rfl
        · rfl
        · rfl
        · rfl
        · obtain ⟨o, h1, h2, _⟩ := E18.ex
          exact hPO 18 o _ h1 h2
        · obtain ⟨o, h1, h2, _⟩ := E19.ex
          exact hPO 19 o _ h1 h2
        · rfl
        · rfl
        · rfl
        · rfl
        · rfl
        · rfl
        · rfl
        · rfl
        · rfl
        · rfl
        · rfl
        · rfl
        · obtain ⟨o, h1, h2, _⟩ := E32.ex
          exact hPO 32 o _ h1 h2
      · intro t ht
        exact hRE t (not_of (by rw [hds]; exact not_cont rfl ht))
    rw [e]
    exact hend (fun d => y.tmps.getD d undef) w hinv
end Go.Proofs.Ytampdkbcijdpcaa
