/- Contracts of Unpack, the program's and the document's. Conditions: the two numbers are of 64 bits. -/
import Derived.Test.YtbfgnlpgfjokhaaUr
import Derived.Test.YtbfgnlpgfjokhaaPa
namespace Go.Proofs.Ytbfgnlpgfjokhaa
open Go.RowKit
theorem mixed : Try.prog.follows .mixedOrders = true := by kernel_rfl
theorem Unpack_high (a b : Int) (w : World) (h : ¬ a / 72057594037927936 = 0) : Calls Try.prog 20 #[.agg #[.int .u64 a, .int .u64 b]] w fun e w' => e = .returned (.tuple #[.agg #[.int .i64 0, .int .i64 0, .int .i64 0, .int .i64 0], .int .i64 2]) ∧ Mod (fun _ => False) w w' := by
  go_enter Try.func20, Try.ntmps20
  go_wp2
  refine bodyPost_ret (v := .tuple #[.agg #[.int .i64 0, .int .i64 0, .int .i64 0, .int .i64 0], .int .i64 2]) (by simp [results, Try.results20, go_sem]) rfl ⟨rfl, ?_⟩
  exact ((Mod.refl _ _).alloc _).alloc _
theorem split1 {A : List Value} {n : Nat} (h : A.length = n + 1) : ∃ x B, A = x :: B ∧ B.length = n := by
  cases A with
  | nil => cases h
  | cons x B => exact ⟨x, B, rfl, by simpa using h⟩
theorem split0 {A : List Value} (h : A.length = 0) : A = [] := List.eq_nil_of_length_eq_zero h
set_option maxRecDepth 100000 in
set_option maxHeartbeats 4000000 in
theorem Unpack_low (a b A1 A2 B1 C B2 c x1 x2 x3 x4 : Int) (l : Int → Int → Int) (w : World) (h : a / 72057594037927936 = 0)
    (k1 : a / 65536 = A1) (k2 : IntKind.u64.wrap (a * 16777216) = A2) (k3 : b / 1099511627776 = B1) (k4 : bits .or .u64 A2 B1 = C) (k5 : b / 68719476736 = B2)
    (L : ∀ (x k : Int) (w : World), k = 40 ∨ k = 36 ∨ k = 4 → Calls Try.prog 29 #[.int .u64 x, .int .i64 k] w fun e w' => e = .returned (.int .i64 (l x k)) ∧ w' = w)
    (e1 : l A1 40 = x1) (e2 : l C 40 = x2) (e3 : l B2 4 = x3) (e4 : l b 36 = x4)
    (HC : ∀ w, Calls Try.prog 11 #[.agg #[.int .i64 x1, .int .i64 x2, .int .i64 x3, .int .i64 x4]] w fun e w' => e = .returned (.int .i64 c) ∧ Mod (fun _ => False) w w') (hc : c = 0 ∨ c = 2) :
    Calls Try.prog 20 #[.agg #[.int .u64 a, .int .u64 b]] w fun e w' => e = .returned (.tuple #[.agg #[.int .i64 (if c = 0 then x1 else 0), .int .i64 (if c = 0 then x2 else 0), .int .i64 (if c = 0 then x3 else 0), .int .i64 (if c = 0 then x4 else 0)], .int .i64 c]) ∧ Mod (fun _ => False) w w' := by
  go_enter Try.func20, Try.ntmps20
  go_wp2_with (fail)
  refine region20 a b A1 A2 B1 C B2 l w.heap.size ⟨⟨_, rfl, rfl, rfl, rfl, by decide +kernel⟩⟩ ⟨⟨_, rfl, rfl, rfl, rfl, by decide +kernel⟩⟩ ⟨⟨_, rfl, rfl, rfl, rfl, by decide +kernel⟩⟩ ⟨⟨_, rfl, rfl, rfl, rfl, by decide +kernel⟩⟩ ⟨⟨_, rfl, rfl, rfl, rfl, by decide +kernel⟩⟩ ⟨⟨_, rfl, rfl, rfl, rfl, by decide +kernel⟩⟩ ⟨⟨_, rfl, rfl, rfl, rfl, by decide +kernel⟩⟩ ⟨⟨_, rfl, rfl, rfl, rfl, by decide +kernel⟩⟩ ⟨⟨_, rfl, rfl, rfl, rfl, by decide +kernel⟩⟩ ⟨⟨_, rfl, rfl, rfl, rfl, by decide +kernel⟩⟩ ⟨⟨_, rfl, rfl, rfl, rfl, by decide +kernel⟩⟩ ⟨⟨_, rfl, rfl, rfl, rfl, by decide +kernel⟩⟩ ⟨⟨_, rfl, rfl, rfl, rfl, by decide +kernel⟩⟩ ⟨⟨_, rfl, rfl, rfl, rfl, by decide +kernel⟩⟩ ⟨⟨_, rfl, rfl, rfl, rfl, by decide +kernel⟩⟩ ⟨⟨_, rfl, rfl, rfl, rfl, by decide +kernel⟩⟩ ⟨⟨_, rfl, rfl, rfl, rfl, by decide +kernel⟩⟩ ⟨⟨_, rfl, rfl, rfl, rfl, by decide +kernel⟩⟩ ⟨⟨_, rfl, rfl, rfl, rfl, by decide +kernel⟩⟩ ⟨⟨_, rfl, rfl, rfl, rfl, by decide +kernel⟩⟩ ⟨⟨_, rfl, rfl, rfl, rfl, by decide +kernel⟩⟩ ⟨⟨_, rfl, rfl, rfl, rfl, by decide +kernel⟩⟩ ⟨⟨_, rfl, rfl, rfl, rfl, by decide +kernel⟩⟩ rfl (by decide +kernel) (by decide +kernel) (by decide +kernel) (by decide +kernel) mixed rfl rfl (by simp [go_sem]) (by simp [go_sem]) L k1 k2 k3 k4 k5 ?_ (by decide +kernel) (by decide +kernel) (by decide +kernel)
  intro x hsz hdf h4 hr
  obtain ⟨⟨L0⟩, df⟩ := x
  simp only [List.size_toArray, List.length_cons, List.length_nil] at hsz
  obtain ⟨y0, L1, rfl, qq0⟩ := split1 hsz
  obtain ⟨y1, L2, rfl, qq1⟩ := split1 qq0
  obtain ⟨y2, L3, rfl, qq2⟩ := split1 qq1
  obtain ⟨y3, L4, rfl, qq3⟩ := split1 qq2
  obtain ⟨y4, L5, rfl, qq4⟩ := split1 qq3
  obtain ⟨y5, L6, rfl, qq5⟩ := split1 qq4
  obtain ⟨y6, L7, rfl, qq6⟩ := split1 qq5
  obtain ⟨y7, L8, rfl, qq7⟩ := split1 qq6
  obtain ⟨y8, L9, rfl, qq8⟩ := split1 qq7
  obtain ⟨y9, L10, rfl, qq9⟩ := split1 qq8
  obtain ⟨y10, L11, rfl, qq10⟩ := split1 qq9
  obtain ⟨y11, L12, rfl, qq11⟩ := split1 qq10
  obtain ⟨y12, L13, rfl, qq12⟩ := split1 qq11
  obtain ⟨y13, L14, rfl, qq13⟩ := split1 qq12
  obtain ⟨y14, L15, rfl, qq14⟩ := split1 qq13
  obtain ⟨y15, L16, rfl, qq15⟩ := split1 qq14
  obtain ⟨y16, L17, rfl, qq16⟩ := split1 qq15
  obtain ⟨y17, L18, rfl, qq17⟩ := split1 qq16
  obtain ⟨y18, L19, rfl, qq18⟩ := split1 qq17
  obtain ⟨y19, L20, rfl, qq19⟩ := split1 qq18
  obtain ⟨y20, L21, rfl, qq20⟩ := split1 qq19
  obtain ⟨y21, L22, rfl, qq21⟩ := split1 qq20
  obtain ⟨y22, L23, rfl, qq22⟩ := split1 qq21
  obtain ⟨y23, L24, rfl, qq23⟩ := split1 qq22
  obtain ⟨y24, L25, rfl, qq24⟩ := split1 qq23
  obtain ⟨y25, L26, rfl, qq25⟩ := split1 qq24
  obtain ⟨y26, L27, rfl, qq26⟩ := split1 qq25
  obtain ⟨y27, L28, rfl, qq27⟩ := split1 qq26
  obtain ⟨y28, L29, rfl, qq28⟩ := split1 qq27
  obtain ⟨y29, L30, rfl, qq29⟩ := split1 qq28
  obtain ⟨y30, L31, rfl, qq30⟩ := split1 qq29
  obtain ⟨y31, L32, rfl, qq31⟩ := split1 qq30
  obtain ⟨y32, L33, rfl, qq32⟩ := split1 qq31
  obtain ⟨y33, L34, rfl, qq33⟩ := split1 qq32
  obtain ⟨y34, L35, rfl, qq34⟩ := split1 qq33
  obtain ⟨y35, L36, rfl, qq35⟩ := split1 qq34
  obtain ⟨y36, L37, rfl, qq36⟩ := split1 qq35
  obtain ⟨y37, L38, rfl, qq37⟩ := split1 qq36
  obtain ⟨y38, L39, rfl, qq38⟩ := split1 qq37
  obtain rfl := split0 qq38
  have g0 := hr 0 (by omega)
  have g1 := hr 1 (by omega)
  have g2 := hr 2 (by omega)
  have g3 := hr 3 (by omega)
  simp at h4 g0 g1 g2 g3 hdf
  subst h4 g0 g1 g2 g3 hdf
  clear hr L k1 k2 k3 k4 k5 h
  rw [e1, e2, e3, e4]
  clear e1 e2 e3 e4
  go_wp2_with (fail)
  refine (HC _).mono ?_
  rintro e w1 ⟨rfl, hm⟩
  have c0 : w1.cell? ⟨w.heap.size + 1 + 1, 0, none⟩ = some (.int .i64 x1) := hm.cell (by simp [go_sem]) (fun h => h)
  have c1 : w1.cell? ⟨w.heap.size + 1 + 1, 1, none⟩ = some (.int .i64 x2) := hm.cell (by simp [go_sem]) (fun h => h)
  have c2 : w1.cell? ⟨w.heap.size + 1 + 1, 2, none⟩ = some (.int .i64 x3) := hm.cell (by simp [go_sem]) (fun h => h)
  have c3 : w1.cell? ⟨w.heap.size + 1 + 1, 3, none⟩ = some (.int .i64 x4) := hm.cell (by simp [go_sem]) (fun h => h)
  have d0 : w1.cell? ⟨w.heap.size + 1, 0, none⟩ = some (.int .i64 0) := hm.cell (by simp [go_sem]) (fun h => h)
  have d1 : w1.cell? ⟨w.heap.size + 1, 1, none⟩ = some (.int .i64 0) := hm.cell (by simp [go_sem]) (fun h => h)
  have d2 : w1.cell? ⟨w.heap.size + 1, 2, none⟩ = some (.int .i64 0) := hm.cell (by simp [go_sem]) (fun h => h)
  have d3 : w1.cell? ⟨w.heap.size + 1, 3, none⟩ = some (.int .i64 0) := hm.cell (by simp [go_sem]) (fun h => h)
  have z0 : w1.frozen? ⟨w.heap.size + 1, 0, none⟩ = false := (hm.frozen (by simp) (fun h => h)).trans (by simp [go_sem])
  have z1 : w1.frozen? ⟨w.heap.size + 1, 1, none⟩ = false := (hm.frozen (by simp) (fun h => h)).trans (by simp [go_sem])
  have z2 : w1.frozen? ⟨w.heap.size + 1, 2, none⟩ = false := (hm.frozen (by simp) (fun h => h)).trans (by simp [go_sem])
  have z3 : w1.frozen? ⟨w.heap.size + 1, 3, none⟩ = false := (hm.frozen (by simp) (fun h => h)).trans (by simp [go_sem])
  have HM := ((((Mod.refl (fun _ => False) w).alloc (Obj.cells #[Value.int IntKind.u64 a, Value.int IntKind.u64 b] 34)).alloc (Obj.cells #[Value.int IntKind.i64 0, Value.int IntKind.i64 0, Value.int IntKind.i64 0, Value.int IntKind.i64 0] 25)).drew.alloc (Obj.cells #[Value.int IntKind.i64 x1, Value.int IntKind.i64 x2, Value.int IntKind.i64 x3, Value.int IntKind.i64 x4] 25)).and hm
  clear HC hm
  rcases hc with rfl | rfl
  · go_wp2
    refine bodyPost_ret (v := .tuple #[.agg #[.int .i64 x1, .int .i64 x2, .int .i64 x3, .int .i64 x4], .int .i64 0]) (by simp [results, Try.results20, go_sem, d0, d1, d2, d3]) rfl ⟨rfl, ?_⟩
    exact ((((HM.setCell _ _ (.inr (by simp))).setCell _ _ (.inr (by simp))).setCell _ _ (.inr (by simp))).setCell _ _ (.inr (by simp)))
  · go_wp2
    refine bodyPost_ret (v := .tuple #[.agg #[.int .i64 0, .int .i64 0, .int .i64 0, .int .i64 0], .int .i64 2]) (by simp [results, Try.results20, go_sem, d0, d1, d2, d3]) rfl ⟨rfl, ?_⟩
    exact ((((HM.setCell _ _ (.inr (by simp))).setCell _ _ (.inr (by simp))).setCell _ _ (.inr (by simp))).setCell _ _ (.inr (by simp)))
theorem ue_high {a b : Int} (h : ¬ a < 72057594037927936) : ue a b = 2 := by rw [ue, if_neg (fun e => h e.1)]
theorem ue_low {a b : Int} (h : a < 72057594037927936) : ue a b = ck (us a) (uq a b) (ur b) (un b) := by
  rw [ue]
  rcases ck_two (us a) (uq a b) (ur b) (un b) with e | e
  · rw [if_pos ⟨h, e⟩, e]
  · rw [if_neg (fun x => by rw [e] at x; exact absurd x.2 (by decide)), e]
theorem Unpack (a b : Int) (w : World) (ha : 0 ≤ a ∧ a < 18446744073709551616) (hb : 0 ≤ b ∧ b < 18446744073709551616) :
    Calls Try.prog 20 #[.agg #[.int .u64 a, .int .u64 b]] w fun e w' => e = .returned (.tuple #[.agg #[.int .i64 (vs a b), .int .i64 (vq a b), .int .i64 (vr a b), .int .i64 (vn a b)], .int .i64 (ue a b)]) ∧ Mod (fun _ => False) w w' := by
  by_cases h : a < 72057594037927936
  · have e1 : lw (a / 65536) 40 = us a := by rw [lw, if_pos rfl, lw40 (by omega), us]; omega
    have e2 : lw (bits .or .u64 (IntKind.u64.wrap (a * 16777216)) (b / 1099511627776)) 40 = uq a b := by
      rw [uq_or ha hb, lw, if_pos rfl, lw40 (by omega), uq]; omega
    have e3 : lw (b / 68719476736) 4 = ur b := by rw [lw, if_neg (by decide), if_neg (by decide), lw4 (by omega), ur]
    have e4 : lw b 36 = un b := by rw [lw, if_neg (by decide), if_pos rfl, lw36 hb, un]
    rw [vs, vq, vr, vn, ue_low h]
    exact Unpack_low a b _ _ _ _ _ _ _ _ _ _ lw w (by omega) rfl rfl rfl rfl rfl low e1 e2 e3 e4 (Check _ _ _ _) (ck_two _ _ _ _)
  · have e := ue_high (b := b) h
    rw [vs, vq, vr, vn, e, if_neg (by decide), if_neg (by decide), if_neg (by decide), if_neg (by decide)]
    exact Unpack_high a b w (by omega)
set_option maxHeartbeats 2000000 in
theorem RUnpack_high (a b x1 x2 x3 x4 : Int) (w : World) (h : 72057594037927936 ≤ a) (E1 : wrap64 (IntKind.u64.wrap (a.tdiv 65536)) = x1) (_E2 : wrap64 (wrap64 (wrap64 (a.tmod 65536) * 16777216) + wrap64 (IntKind.u64.wrap (b.tdiv 1099511627776))) = x2) (E3 : wrap64 ((IntKind.u64.wrap (b.tdiv 68719476736)).tmod 16) = x3) (E4 : wrap64 (b.tmod 68719476736) = x4) : Calls Try.prog 21 #[.agg #[.int .u64 a, .int .u64 b]] w fun e w' => e = .returned (.tuple #[.agg #[.int .i64 0, .int .i64 0, .int .i64 0, .int .i64 0], .int .i64 2]) ∧ Mod (fun _ => False) w w' := by
  go_enter Try.func21, Try.ntmps21
  go_wp2
  refine bodyPost_ret (v := .tuple #[.agg #[.int .i64 0, .int .i64 0, .int .i64 0, .int .i64 0], .int .i64 2]) (by simp [results, Try.results21, go_sem]) rfl ⟨rfl, ?_⟩
  first
    | exact (((Mod.refl _ _).alloc _).alloc _).alloc _
    | exact ((((((((Mod.refl _ _).alloc _).alloc _).alloc _).setCell _ _ (.inr (by simp))).setCell _ _ (.inr (by simp))).setCell _ _ (.inr (by simp))).setCell _ _ (.inr (by simp)))
set_option maxHeartbeats 2000000 in
theorem RUnpack_low (a b c x1 x2 x3 x4 : Int) (w : World) (h : ¬ 72057594037927936 ≤ a) (E1 : wrap64 (IntKind.u64.wrap (a.tdiv 65536)) = x1) (E2 : wrap64 (wrap64 (wrap64 (a.tmod 65536) * 16777216) + wrap64 (IntKind.u64.wrap (b.tdiv 1099511627776))) = x2) (E3 : wrap64 ((IntKind.u64.wrap (b.tdiv 68719476736)).tmod 16) = x3) (E4 : wrap64 (b.tmod 68719476736) = x4)
    (HC : ∀ w, Calls Try.prog 12 #[.agg #[.int .i64 x1, .int .i64 x2, .int .i64 x3, .int .i64 x4]] w fun e w' => e = .returned (.int .i64 c) ∧ Mod (fun _ => False) w w') (hc : c = 0 ∨ c = 2) :
    Calls Try.prog 21 #[.agg #[.int .u64 a, .int .u64 b]] w fun e w' => e = .returned (.tuple #[.agg #[.int .i64 (if c = 0 then x1 else 0), .int .i64 (if c = 0 then x2 else 0), .int .i64 (if c = 0 then x3 else 0), .int .i64 (if c = 0 then x4 else 0)], .int .i64 c]) ∧ Mod (fun _ => False) w w' := by
  go_enter Try.func21, Try.ntmps21
  go_wp2_with (fail)
  refine (HC _).mono ?_
  rintro e w1 ⟨rfl, hm⟩
  have c0 : w1.cell? ⟨w.heap.size + 1 + 1, 0, none⟩ = some (.int .i64 x1) := hm.cell (by simp [go_sem]) (fun h => h)
  have c1 : w1.cell? ⟨w.heap.size + 1 + 1, 1, none⟩ = some (.int .i64 x2) := hm.cell (by simp [go_sem]) (fun h => h)
  have c2 : w1.cell? ⟨w.heap.size + 1 + 1, 2, none⟩ = some (.int .i64 x3) := hm.cell (by simp [go_sem]) (fun h => h)
  have c3 : w1.cell? ⟨w.heap.size + 1 + 1, 3, none⟩ = some (.int .i64 x4) := hm.cell (by simp [go_sem]) (fun h => h)
  have d0 : w1.cell? ⟨w.heap.size + 1, 0, none⟩ = some (.int .i64 0) := hm.cell (by simp [go_sem]) (fun h => h)
  have d1 : w1.cell? ⟨w.heap.size + 1, 1, none⟩ = some (.int .i64 0) := hm.cell (by simp [go_sem]) (fun h => h)
  have d2 : w1.cell? ⟨w.heap.size + 1, 2, none⟩ = some (.int .i64 0) := hm.cell (by simp [go_sem]) (fun h => h)
  have d3 : w1.cell? ⟨w.heap.size + 1, 3, none⟩ = some (.int .i64 0) := hm.cell (by simp [go_sem]) (fun h => h)
  have z0 : w1.frozen? ⟨w.heap.size + 1, 0, none⟩ = false := (hm.frozen (by simp; try omega) (fun h => h)).trans (by simp [go_sem])
  have z1 : w1.frozen? ⟨w.heap.size + 1, 1, none⟩ = false := (hm.frozen (by simp; try omega) (fun h => h)).trans (by simp [go_sem])
  have z2 : w1.frozen? ⟨w.heap.size + 1, 2, none⟩ = false := (hm.frozen (by simp; try omega) (fun h => h)).trans (by simp [go_sem])
  have z3 : w1.frozen? ⟨w.heap.size + 1, 3, none⟩ = false := (hm.frozen (by simp; try omega) (fun h => h)).trans (by simp [go_sem])
  have HM := ((((Mod.refl (fun _ => False) w).alloc (Obj.cells #[Value.int IntKind.u64 a, Value.int IntKind.u64 b] 34)).alloc (Obj.cells #[Value.int IntKind.i64 0, Value.int IntKind.i64 0, Value.int IntKind.i64 0, Value.int IntKind.i64 0] 25)).alloc (Obj.cells #[Value.int IntKind.i64 x1, Value.int IntKind.i64 x2, Value.int IntKind.i64 x3, Value.int IntKind.i64 x4] 25)).and hm
  clear HC hm E1 E2 E3 E4 h
  rcases hc with rfl | rfl
  · go_wp2
    refine bodyPost_ret (v := .tuple #[.agg #[.int .i64 x1, .int .i64 x2, .int .i64 x3, .int .i64 x4], .int .i64 0]) (by simp [results, Try.results21, go_sem, d0, d1, d2, d3]) rfl ⟨rfl, ?_⟩
    exact ((((HM.setCell _ _ (.inr (by simp))).setCell _ _ (.inr (by simp))).setCell _ _ (.inr (by simp))).setCell _ _ (.inr (by simp)))
  · go_wp2
    refine bodyPost_ret (v := .tuple #[.agg #[.int .i64 0, .int .i64 0, .int .i64 0, .int .i64 0], .int .i64 2]) (by simp [results, Try.results21, go_sem, d0, d1, d2, d3]) rfl ⟨rfl, ?_⟩
    exact ((((HM.setCell _ _ (.inr (by simp))).setCell _ _ (.inr (by simp))).setCell _ _ (.inr (by simp))).setCell _ _ (.inr (by simp)))
theorem RUnpack (a b : Int) (w : World) (ha : 0 ≤ a ∧ a < 18446744073709551616) (hb : 0 ≤ b ∧ b < 18446744073709551616) :
    Calls Try.prog 21 #[.agg #[.int .u64 a, .int .u64 b]] w fun e w' => e = .returned (.tuple #[.agg #[.int .i64 (vs a b), .int .i64 (vq a b), .int .i64 (vr a b), .int .i64 (vn a b)], .int .i64 (ue a b)]) ∧ Mod (fun _ => False) w w' := by
  have d1 : a.tdiv 65536 = a / 65536 := Int.tdiv_eq_ediv_of_nonneg ha.1
  have d2 : a.tmod 65536 = a % 65536 := Int.tmod_eq_emod_of_nonneg ha.1
  have d3 : b.tdiv 1099511627776 = b / 1099511627776 := Int.tdiv_eq_ediv_of_nonneg hb.1
  have d4 : b.tdiv 68719476736 = b / 68719476736 := Int.tdiv_eq_ediv_of_nonneg hb.1
  have d5 : b.tmod 68719476736 = b % 68719476736 := Int.tmod_eq_emod_of_nonneg hb.1
  have E1 : wrap64 (IntKind.u64.wrap (a.tdiv 65536)) = us a := by rw [d1, wrap_u64, us]; unfold wrap64; omega
  have E2 : wrap64 (wrap64 (wrap64 (a.tmod 65536) * 16777216) + wrap64 (IntKind.u64.wrap (b.tdiv 1099511627776))) = uq a b := by rw [d2, d3, wrap_u64, uq]; unfold wrap64; omega
  have d6 : IntKind.u64.wrap (b / 68719476736) = b / 68719476736 := by rw [wrap_u64]; omega
  have E3 : wrap64 ((IntKind.u64.wrap (b.tdiv 68719476736)).tmod 16) = ur b := by rw [d4, d6, Int.tmod_eq_emod_of_nonneg (by omega), ur]; unfold wrap64; omega
  have E4 : wrap64 (b.tmod 68719476736) = un b := by rw [d5, un]; unfold wrap64; omega
  by_cases h : a < 72057594037927936
  · rw [vs, vq, vr, vn, ue_low h]
    exact RUnpack_low a b _ _ _ _ _ w (by omega) E1 E2 E3 E4 (RCheck _ _ _ _) (ck_two _ _ _ _)
  · have e := ue_high (b := b) h
    rw [vs, vq, vr, vn, e, if_neg (by decide), if_neg (by decide), if_neg (by decide), if_neg (by decide)]
    exact RUnpack_high a b _ _ _ _ w (by omega) E1 E2 E3 E4
end Go.Proofs.Ytbfgnlpgfjokhaa
