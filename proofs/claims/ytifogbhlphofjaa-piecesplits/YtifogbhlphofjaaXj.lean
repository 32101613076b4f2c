/- Contract of the document's Split, of all messages that may be split by. Conditions: sizes that a slice of bytes has. -/
import Derived.Test.YtifogbhlphofjaaXi
import Derived.Deep.DeepCutAuto
namespace Go.Proofs.Ytifogbhlphofjaa
open Go.RowKit Go.Maps
theorem infoMq : (Try.prog.info? 28).map (fun i => (i.zero, i.size, i.bytes)) = some (some (.agg #[.int .i64 0, .int .i64 0, .int .i64 0, .int .i64 0, .int .i64 0, .int .i64 0, .int .i64 0, .bool false, .int .i64 0, .int .i64 0, .int .i64 0, .int .i64 0, .slice none 0 0]), 13, 120) := by kernel_rfl
/-- The cells of the parts below j. -/
def fl (m : Ms) (n : Nat) (pl : List Int) (V : Nat → Value) : Nat → List Value
  | 0 => []
  | j + 1 => fl m n pl V j ++ mcl (prt m n pl j) (V j)
theorem fl_len (m : Ms) (n : Nat) (pl : List Int) (V : Nat → Value) : ∀ j, (fl m n pl V j).length = j * 13
  | 0 => rfl
  | j + 1 => by rw [fl, List.length_append, fl_len m n pl V j, mcl_len]; omega
theorem fl_ext (m : Ms) (n : Nat) (pl : List Int) {V V' : Nat → Value} : ∀ j, (∀ i, i < j → V i = V' i) → fl m n pl V j = fl m n pl V' j
  | 0, _ => rfl
  | j + 1, h => by rw [fl, fl, fl_ext m n pl j (fun i hi => h i (by omega)), h j (by omega)]
theorem fl_get (m : Ms) (n : Nat) (pl : List Int) (V : Nat → Value) : ∀ j i, i < j → ∀ t c, (mcl (prt m n pl i) (V i))[t]? = some c → (fl m n pl V j)[i * 13 + t]? = some c
  | 0, i, h => by omega
  | j + 1, i, h => fun t c hc => by
    have ht : t < 13 := by
      rcases Nat.lt_or_ge t 13 with h | h
      · exact h
      · rw [List.getElem?_eq_none (by exact h)] at hc; cases hc
    rw [fl]
    by_cases e : i = j
    · subst e
      rw [List.getElem?_append_right (by rw [fl_len]; omega), fl_len, show i * 13 + t - i * 13 = t by omega]
      exact hc
    · rw [List.getElem?_append_left (by rw [fl_len]; omega)]
      exact fl_get m n pl V j i (by omega) t c hc
theorem appL (w : World) (cs : List Value) (t : TypeId) : ∀ j u, cs[j]? = some u → (w.alloc (.cells cs.toArray t)).cell? ((⟨w.heap.size, 0, none⟩ : Addr).add j) = some u := by
  intro j u hj
  rw [Addr.add_mid]
  have h := heap_alloc_new w (.cells cs.toArray t)
  simp only [World.cell?, h]
  simpa using hj
/-- append of bytes, as a step of a statement that draws its order. -/
theorem run_app (w : World) (v u : Value) (q m : List Int) (hown : Own w v q) (hu : Sl w u m) (hb : q.length + m.length ≤ 140737488355328) (r : List Int) (hr : r = q ++ m) (ty : TypeId) :
    ∃ ao cp w', (Builtin.append_ #[26, 26] ty #[v, u]).run Try.prog w = .ok (.slice ao r.length cp) w' ∧ Own w' (.slice ao r.length cp) r ∧ Mod (fun k => v.ownBlock = some k) w w' ∧ Fr w v (.slice ao r.length cp) := by
  subst hr
  obtain ⟨ao, cap, rfl, h1, h2, h3, h4⟩ := hu.form
  cases ao with
  | none =>
    obtain rfl := h3 rfl
    obtain rfl : m = [] := List.eq_nil_of_length_eq_zero (by omega)
    have hrun : (Builtin.append_ #[26, 26] ty #[v, .slice none 0 0]).run Try.prog w = .ok v w := by
      rcases hown.2 with ⟨rfl, _⟩ | ⟨g, cp, cur, rfl, _, _, hn, _⟩
      · exact ap1 w ty
      · exact ap2 w ty g _ cp hn
    obtain ⟨ao, cp, e⟩ := hown.shape
    rw [List.append_nil]
    subst e
    exact ⟨ao, cp, w, hrun, hown, Mod.refl _ _, Fr.refl _ _⟩
  | some ad =>
    obtain ⟨i0, hi, hz0, hz1, hz2⟩ := info_parts info5
    have hcells : ∀ j u, (U m)[j]? = some u → w.cell? (ad.add j) = some u := fun j u hju => by
      by_cases hl : m = []
      · subst hl; simp [U] at hju
      · obtain ⟨b, off, e, hc⟩ := h4 hl
        cases e
        exact cells_of hc j u hju
    obtain ⟨v2, w2, hr, hown2, hgrow, hnil, hat⟩ := run_append_own_at (P := Try.prog) w 0 26 ty 5 i0 (.int .u8 0) 1 1 Try.underlying26 hi hz0 hz1 hz2 rfl (by decide) v q.length (U q) hown ad m.length cap (U m) (by simp [U]) hcells (U_one m) (by simp only [maxLen]; omega) (by omega) (Nat.zero_le _)
    have ho2 : Own w2 v2 (q ++ m) := by
      unfold Own
      rw [U_app, List.length_append]
      exact hown2
    obtain ⟨ao2, cp2, e2⟩ := ho2.shape
    subst e2
    refine ⟨ao2, cp2, w2, hr, ho2, (Mod.refl _ w).grown hgrow (fun k hk _ => hk), fun g hg => ?_⟩
    rcases hat with h | h
    · exact .inl (h ▸ hg)
    · right; rw [h] at hg; simp at hg; omega
theorem step_app {ops : Array Oper} {o : Oper} {a : Act} {w : World} {K : Act → World → Prop} {Q : Exit → Act → World → Prop} {E : Prop} (hgd : o.guard = none) (s x : Operand) (ho : o.op = .call { callee := .builtin .append, args := #[s, x], argTypes := #[26, 26] })
    (v u : Value) (q m : List Int) (hs : a.eval s = v) (hx : a.eval x = u) (hown : Own w v q) (hu : Sl w u m) (hb : q.length + m.length ≤ 140737488355328) (r : List Int) (hr : r = q ++ m)
    (h : ∀ ao cp w', Own w' (.slice ao r.length cp) r → Mod (fun k => v.ownBlock = some k) w w' → Fr w v (.slice ao r.length cp) → K (a.put o.dst (.slice ao r.length cp)) w') :
    if Region.wanted o (yielded ops a.tmps) = true then Oper.wp Try.prog o a w K Q else E := by
  rw [if_pos (by simp [Region.wanted, hgd])]
  obtain ⟨ao, cp, w', hrun, h1, h2, h3⟩ := run_app w v u q m hown hu hb r hr o.type
  unfold Oper.wp execOp
  simp only [ho, resolve, invoke, builtin, Sem.run_bind, Sem.run_pure, Result.andThen_ok, List.map_toArray, List.map_cons, List.map_nil, hs, hx, hrun]
  exact h ao cp w' h1 h2 h3
/-- The parts below j lie in the document's slice. -/
structure Dp (w : World) (v : Value) (B : Nat) (m : Ms) (n : Nat) (pl : List Int) (V : Nat → Value) (j : Nat) : Prop where
  row : w.ownsRow 0 28 13 v j (fl m n pl V j)
  own : ∀ i, i < j → Own w (V i) (chunk pl i) ∧ (∀ b, (V i).ownBlock = some b → B ≤ b)
  new : ∀ b, v.ownBlock = some b → B ≤ b
theorem row_kind {w : World} {v : Value} {n : Nat} {xs : List Value} (h : w.ownsRow 0 28 13 v n xs) {g : Nat} (hg : v.ownBlock = some g) : ∃ cur, w.heap[g]? = some (.cells cur 28 (0, 0)) := by
  rcases h.2 with ⟨rfl, _⟩ | ⟨g', cap, cur, rfl, hb, hh, _⟩
  · simp [Value.ownBlock] at hg
  · simp only [Value.ownBlock, Option.some.injEq] at hg
    subst hg
    exact ⟨cur, hh⟩
theorem own_row {w : World} {v u : Value} {n : Nat} {xs : List Value} {q : List Int} (h : w.ownsRow 0 28 13 v n xs) (hu : Own w u q) {b : Nat} (hb : u.ownBlock = some b) : v.ownBlock ≠ some b := fun e => by
  obtain ⟨c1, h1⟩ := row_kind h e
  obtain ⟨c2, h2⟩ := hu.kind hb
  rw [h1] at h2
  simp at h2
set_option maxRecDepth 100000 in
set_option maxHeartbeats 4000000 in
theorem dSplit_ok (o lf i g : Int) (s : Bool) (ao : Option Addr) (cap : Nat) (ap : Option Addr) (cp : Nat) (pl : List Int) (w : World) (hs : Sl w (.slice ao 0 cap) []) (hp : Sl w (.slice ap pl.length cp) pl) (hC0 : chk ⟨1, o, lf, i, 0, 1, g, s, 0, 0, 0, 0, []⟩ = 0) (hL : pl.length ≤ 200) :
    Calls Try.prog 11 #[.agg #[.int .i64 1, .int .i64 o, .int .i64 lf, .int .i64 i, .int .i64 0, .int .i64 0, .int .i64 g, .bool s, .int .i64 0, .int .i64 0, .int .i64 0, .int .i64 0, .slice ao 0 cap], .slice ap pl.length cp] w fun e w' => ∃ v V, e = .returned (.tuple #[v, .int .i64 0]) ∧ Dp w' v w.heap.size ⟨1, o, lf, i, 0, 0, g, s, 0, 0, 0, 0, []⟩ (pcn pl.length) pl V (pcn pl.length) ∧ Mod (fun _ => False) w w' := by
  have EK := eqKey 0 0 0 0 0 0 0 0
  simp only [decide_true, Bool.and_self] at EK
  have HC : ∀ W, Mod (fun _ => False) w W → _ := fun W (hm : Mod (fun _ => False) w W) => dCheck 1 o lf i 0 1 g s 0 0 0 0 ao cap [] W (hs.mod hm (fun _ _ h => h))
  simp only [List.length_nil] at HC
  rw [hC0] at HC
  clear hC0
  have hA := ((Mod.refl (fun _ => False) w).alloc (.cells #[.int .i64 1, .int .i64 o, .int .i64 lf, .int .i64 i, .int .i64 0, .int .i64 0, .int .i64 g, .bool s, .int .i64 0, .int .i64 0, .int .i64 0, .int .i64 0, .slice ao 0 cap] 28)).alloc (.cells #[.int .i64 1, .int .i64 o, .int .i64 lf, .int .i64 i, .int .i64 0, .int .i64 1, .int .i64 g, .bool s, .int .i64 0, .int .i64 0, .int .i64 0, .int .i64 0, .slice ao 0 cap] 28)
  have hB0 := (Bk.new w #[.int .i64 1, .int .i64 o, .int .i64 lf, .int .i64 i, .int .i64 0, .int .i64 0, .int .i64 g, .bool s, .int .i64 0, .int .i64 0, .int .i64 0, .int .i64 0, .slice ao 0 cap] 28).mod ((Mod.refl (fun _ => False) _).alloc (.cells #[.int .i64 1, .int .i64 o, .int .i64 lf, .int .i64 i, .int .i64 0, .int .i64 1, .int .i64 g, .bool s, .int .i64 0, .int .i64 0, .int .i64 0, .int .i64 0, .slice ao 0 cap] 28)) (fun h => h)
  have hLi : ¬ (200 : Int) < (pl.length : Int) := by omega
  have hn0 : (pcn pl.length : Int) = max (((pl.length : Int) + 48 - 1) / 48) 1 := by unfold pcn; omega
  have hn1 : 1 ≤ pcn pl.length ∧ pcn pl.length ≤ 5 ∧ pl.length ≤ pcn pl.length * 48 ∧ (pcn pl.length - 1) * 48 ≤ pl.length := by unfold pcn; omega
  generalize pcn pl.length = n at hn0 hn1 ⊢
  obtain ⟨n1, n5, n48, nl⟩ := hn1
  have HLp : Hid (pl.length ≤ 200) := hL
  have hnc : (1 < ((pl.length : Int) + 48 - 1) / 48 ∧ ((pl.length : Int) + 48 - 1) / 48 = (n : Int)) ∨ (((pl.length : Int) + 48 - 1) / 48 ≤ 1 ∧ n = 1) := by omega
  clear hn0 hL
  go_enter Try.func11, Try.ntmps11
  go_wp2_with (fail)
  refine (HC _ hA).mono ?_
  rintro e w2 ⟨rfl, hm2⟩
  clear HC
  replace hB0 := hB0.mod hm2 (fun h => h)
  have hM2 := hA.trans hm2 (V := fun _ => False) (fun _ _ h => h) (fun _ _ h => h)
  obtain ⟨b0, hb0⟩ : ∃ b, b = w.heap.size := ⟨_, rfl⟩
  rw [← hb0] at hB0 ⊢
  have HB0 : Hid (b0 = w.heap.size) := hb0
  clear hb0 hm2 hA
  go_upto_region 7 with (fail)
  go_cut [7] (fun s7 wx => s7 = .int .i64 (n : Int) ∧ wx = w2)
  case first =>
    have HNC : Hid _ := hnc
    clear hnc
    go_wp2_with (fail)
    all_goals go_meet
    all_goals refine ⟨?_, rfl⟩
    all_goals show Value.int .i64 _ = Value.int .i64 _
    all_goals congr 1
    all_goals have := HNC.out
    all_goals omega
  case rest =>
  obtain ⟨e7, ew⟩ := hcut
  subst e7 ew
  clear hnc EK
  go_wp2_with (fail)
  go_loopw [8, 9, 10] (fun out ci x10 wr => ∃ (j : Nat) (V : Nat → Value), ci = .int .i64 (j : Int) ∧ j ≤ n ∧ Dp wr out (w.heap.size + 1) ⟨1, o, lf, i, 0, 0, g, s, 0, 0, 0, 0, []⟩ n pl V j ∧ Bk wr b0 28 #[.int .i64 1, .int .i64 o, .int .i64 lf, .int .i64 i, .int .i64 0, .int .i64 0, .int .i64 g, .bool s, .int .i64 0, .int .i64 0, .int .i64 0, .int .i64 0, .slice ao 0 cap] ∧ Mod (fun _ => False) w wr) (fun _ ci _ _ => n - (intOf ci).toNat)
  case atStart => exact ⟨0, fun _ => .slice none 0 0, rfl, Nat.zero_le _, ⟨World.ownsRow_nil _ _ _ _, fun _ h => absurd h (Nat.not_lt_zero _), by simp [Value.ownBlock]⟩, hB0, hM2⟩
  case round =>
    obtain ⟨j, V, rfl, hj, hD, hBr, hMr⟩ := hrel
    clear hB0 hM2
    by_cases hjn : j < n
    · have hjn' : (j : Int) < (n : Int) := by go_light; omega
      have c0 : wr.cell? ⟨b0, 0, none⟩ = some (.int .i64 1) := hBr.cellv (j := 0) rfl
      have c1 : wr.cell? ⟨b0, 1, none⟩ = some (.int .i64 o) := hBr.cellv (j := 1) rfl
      have c2 : wr.cell? ⟨b0, 2, none⟩ = some (.int .i64 lf) := hBr.cellv (j := 2) rfl
      have c3 : wr.cell? ⟨b0, 3, none⟩ = some (.int .i64 i) := hBr.cellv (j := 3) rfl
      have c4 : wr.cell? ⟨b0, 4, none⟩ = some (.int .i64 0) := hBr.cellv (j := 4) rfl
      have c5 : wr.cell? ⟨b0, 5, none⟩ = some (.int .i64 0) := hBr.cellv (j := 5) rfl
      have c6 : wr.cell? ⟨b0, 6, none⟩ = some (.int .i64 g) := hBr.cellv (j := 6) rfl
      have c7 : wr.cell? ⟨b0, 7, none⟩ = some (.bool s) := hBr.cellv (j := 7) rfl
      have c8 : wr.cell? ⟨b0, 8, none⟩ = some (.int .i64 0) := hBr.cellv (j := 8) rfl
      have c9 : wr.cell? ⟨b0, 9, none⟩ = some (.int .i64 0) := hBr.cellv (j := 9) rfl
      have c10 : wr.cell? ⟨b0, 10, none⟩ = some (.int .i64 0) := hBr.cellv (j := 10) rfl
      have c11 : wr.cell? ⟨b0, 11, none⟩ = some (.int .i64 0) := hBr.cellv (j := 11) rfl
      have c12 : wr.cell? ⟨b0, 12, none⟩ = some (.slice ao 0 cap) := hBr.cellv (j := 12) rfl
      go_upto_region 16 with (fail)
      clear c0 c1 c2 c3 c4 c5 c6 c7 c8 c9 c10 c11 c12
      have hMW := (Mod.refl (fun _ => False) wr).alloc (.cells #[.int .i64 1, .int .i64 o, .int .i64 lf, .int .i64 i, .int .i64 (j : Int), .int .i64 (n : Int), .int .i64 g, .bool s, .int .i64 0, .int .i64 0, .int .i64 0, .int .i64 0, .slice none 0 0] 28)
      have hBx := Bk.new wr #[.int .i64 1, .int .i64 o, .int .i64 lf, .int .i64 i, .int .i64 (j : Int), .int .i64 (n : Int), .int .i64 g, .bool s, .int .i64 0, .int .i64 0, .int .i64 0, .int .i64 0, .slice none 0 0] 28
      obtain ⟨bx, hbx⟩ : ∃ b, b = wr.heap.size := ⟨_, rfl⟩
      rw [← hbx] at hBx ⊢
      have HBX : Hid (bx = wr.heap.size) := hbx
      clear hbx
      generalize wr.alloc (.cells #[.int .i64 1, .int .i64 o, .int .i64 lf, .int .i64 i, .int .i64 (j : Int), .int .i64 (n : Int), .int .i64 g, .bool s, .int .i64 0, .int .i64 0, .int .i64 0, .int .i64 0, .slice none 0 0] 28) = W at *
      have hMwW := hMr.trans hMW (V := fun _ => False) (fun _ _ h => h) (fun _ _ h => h)
      have hpW : Sl W (.slice ap pl.length cp) pl := hp.mod hMwW (fun _ _ h => h)
      have hK48 : j * 48 ≤ pl.length := by
        have : j ≤ n - 1 := by go_light; omega
        exact Nat.le_trans (Nat.mul_le_mul_right 48 this) nl
      obtain ⟨K, hK⟩ : ∃ K, K = j * 48 := ⟨_, rfl⟩
      obtain ⟨E, hE⟩ : ∃ E, E = min (K + 48) pl.length := ⟨_, rfl⟩
      have hKi : (j : Int) * 48 = (K : Int) := by go_light; omega
      have hKi2 : ((j : Int) + 1) * 48 = (K : Int) + 48 := by go_light; omega
      have HKE : Hid (K ≤ E ∧ E ≤ pl.length ∧ chunk pl j = (pl.drop K).take (E - K)) := by
        show _ ∧ _ ∧ _
        refine ⟨by go_light; omega, by go_light; omega, ?_⟩
        unfold chunk
        rw [hE, hK]
      have hcut := (hpW.mod ((Mod.refl (fun _ => False) W).drew) (fun _ _ h => h)).cut K E HKE.out.1 HKE.out.2.1
      rw [← HKE.out.2.2] at hcut
      obtain ⟨c1, hc1⟩ : ∃ c, c = chunk pl j := ⟨_, rfl⟩
      rw [← hc1] at hcut
      have HC1 : Hid (c1 = chunk pl j) := hc1
      have hcl : c1.length ≤ 48 := by rw [hc1]; simp [chunk]; go_light; omega
      clear hc1
      obtain ⟨_, _, ecp, hlc, hcm, _⟩ := hpW.form
      simp only [Value.slice.injEq, true_and] at ecp
      obtain ⟨rfl, rfl⟩ := ecp
      have d12 : W.cell? ⟨bx, 12, none⟩ = some (.slice none 0 0) := hBx.cellv (j := 12) rfl
      have z12 := hBx.frz 12
      have hKE' : (K : Int) ≤ (E : Int) := by have := HKE.out.1; go_light; omega
      have hEc : (E : Int) ≤ (cp : Int) := by have := HKE.out.2.1; go_light; omega
      have hKE2 : K ≤ E := HKE.out.1
      have hEc2 : E ≤ cp := Nat.le_trans HKE.out.2.1 hlc
      have hj5 : (j : Int) + 1 ≤ 5 := by go_light; omega
      have hw1 : IntKind.i64.wrap ((j : Int) + 1) = (j : Int) + 1 := by rw [IntKind.wrap_i64]; go_light; omega
      have hw2 : IntKind.i64.wrap (((j : Int) + 1) * 48) = (K : Int) + 48 := by rw [hKi2, IntKind.wrap_i64]; go_light; omega
      have hw3 : IntKind.i64.wrap ((K : Int) + 48) = (K : Int) + 48 := by rw [IntKind.wrap_i64]; go_light; omega
      have hw4 : IntKind.i64.wrap (K : Int) = (K : Int) := by rw [IntKind.wrap_i64]; go_light; omega
      have hw5 : IntKind.i64.wrap (E : Int) = (E : Int) := by have := HKE.out.2.1; have := HLp.out; rw [IntKind.wrap_i64]; go_light; omega
      have hEE : (¬ (pl.length : Int) < (K : Int) + 48 ∧ (K : Int) + 48 = (E : Int)) ∨ ((pl.length : Int) < (K : Int) + 48 ∧ E = pl.length) := by go_light; omega
      clear hE hK hK48
      go_cut [] (fun wx => ∃ a1 k1, Own wx (.slice a1 c1.length k1) c1 ∧ (∀ b, (Value.slice a1 c1.length k1).ownBlock = some b → W.heap.size ≤ b) ∧ Bk wx bx 28 #[.int .i64 1, .int .i64 o, .int .i64 lf, .int .i64 i, .int .i64 (j : Int), .int .i64 (n : Int), .int .i64 g, .bool s, .int .i64 0, .int .i64 0, .int .i64 0, .int .i64 0, .slice a1 c1.length k1] ∧ Mod (fun b => b = bx) W wx)
      case first =>
        clear hD hBr hMr hMW hMwW hpW hp hs
        have hfin : ∀ (w3 : World) a1 k1, Own w3 (.slice a1 c1.length k1) c1 → Mod (fun k => (Value.slice none 0 0).ownBlock = some k) W.drew w3 → Fr W.drew (.slice none 0 0) (.slice a1 c1.length k1) → w3.cell? ⟨bx, 12, none⟩ = some (.slice none 0 0) ∧ w3.frozen? ⟨bx, 12, none⟩ = false ∧ (Own (w3.setCell ⟨bx, 12, none⟩ (.slice a1 c1.length k1)) (.slice a1 c1.length k1) c1 ∧ (∀ b, (Value.slice a1 c1.length k1).ownBlock = some b → W.heap.size ≤ b) ∧ Bk (w3.setCell ⟨bx, 12, none⟩ (.slice a1 c1.length k1)) bx 28 #[.int .i64 1, .int .i64 o, .int .i64 lf, .int .i64 i, .int .i64 (j : Int), .int .i64 (n : Int), .int .i64 g, .bool s, .int .i64 0, .int .i64 0, .int .i64 0, .int .i64 0, .slice a1 c1.length k1] ∧ Mod (fun b => b = bx) W (w3.setCell ⟨bx, 12, none⟩ (.slice a1 c1.length k1))) := fun w3 a1 k1 ho hm hf => by
          have hm' : Mod (fun _ => False) W w3 := ((Mod.refl (fun _ => False) W).drew).trans (hm.mono (T := fun _ => False) (fun b _ h => by simp [Value.ownBlock] at h)) (fun _ _ h => h) (fun _ _ h => h)
          have hB3 := hBx.mod hm' (fun h => h)
          have hB4 := hB3.set 12 (.slice a1 c1.length k1)
          simp only [List.setIfInBounds_toArray, List.set_cons_succ, List.set_cons_zero] at hB4
          have hne : ∀ b, (Value.slice a1 c1.length k1).ownBlock = some b → ¬ b = bx := fun b hb e => by
            obtain ⟨cur, hc⟩ := ho.kind hb
            rw [e, hB3.at'] at hc
            simp at hc
          refine ⟨hB3.cellv (j := 12) rfl, hB3.frz 12, ho.mod ((Mod.refl (fun b => b = bx) w3).setCell _ _ (.inl rfl)) hne, fun b hb => ?_, hB4, (hm'.mono (fun _ _ h => h.elim)).setCell _ _ (.inl rfl)⟩
          rcases hf b hb with h | h
          · simp [Value.ownBlock] at h
          · exact h
        rcases hEE with ⟨e1, e2⟩ | ⟨e1, e2⟩
        · have hnE : ¬ pl.length < E := Nat.not_lt.2 HKE.out.2.1
          by_cases hck : cp = K
          · exact absurd hEc (by subst hck; go_light; omega)
          · rw [if_neg hck, Nat.mul_one] at hcut
            go_region_law ((refine step_app (by rfl) _ _ (by rfl) (.slice none 0 0) (.slice (ap.map (·.add K)) (E - K) (cp - K)) [] c1 (by rfl) (by rfl) (Own.nil _) hcut (by simp; go_light; omega) c1 rfl ?_; intro a1 k1 w3 ho3 hm3 hf3; obtain ⟨q1, q2, q3⟩ := hfin w3 a1 k1 ho3 hm3 hf3))
            all_goals go_wp2_with (fail)
            all_goals go_meet
            all_goals exact ⟨_, _, q3⟩
        · subst e2
          by_cases hck : cp = K
          · have e9 : cp = pl.length := Nat.le_antisymm (hck ▸ hKE2) hlc
            subst hck
            subst e9
            simp only [if_true, Nat.sub_self] at hcut
            go_region_law ((refine step_app (by rfl) _ _ (by rfl) (.slice none 0 0) (.slice ap 0 0) [] c1 (by rfl) (by rfl) (Own.nil _) hcut (by simp; go_light; omega) c1 rfl ?_; intro a1 k1 w3 ho3 hm3 hf3; obtain ⟨q1, q2, q3⟩ := hfin w3 a1 k1 ho3 hm3 hf3))
            all_goals go_wp2_with (fail)
            all_goals go_meet
            all_goals exact ⟨_, _, q3⟩
          · rw [if_neg hck, Nat.mul_one] at hcut
            go_region_law ((refine step_app (by rfl) _ _ (by rfl) (.slice none 0 0) (.slice (ap.map (·.add K)) (pl.length - K) (cp - K)) [] c1 (by rfl) (by rfl) (Own.nil _) hcut (by simp; go_light; omega) c1 rfl ?_; intro a1 k1 w3 ho3 hm3 hf3; obtain ⟨q1, q2, q3⟩ := hfin w3 a1 k1 ho3 hm3 hf3))
            all_goals go_wp2_with (fail)
            all_goals go_meet
            all_goals exact ⟨_, _, q3⟩
      case rest =>
      obtain ⟨a1, k1, ho1, hv1, hBy, hmy⟩ := hcut
      generalize wc = w4 at *
      have hszW : Hid (w.heap.size ≤ wr.heap.size ∧ wr.heap.size ≤ W.heap.size) := ⟨hMr.size, hMW.size⟩
      have hneV : ∀ b, b < wr.heap.size → ¬ b = bx := fun b hb e => by rw [e, HBX.out] at hb; exact absurd hb (Nat.lt_irrefl _)
      have hm4 : Mod (fun _ => False) wr w4 := hMW.trans hmy (fun _ _ h => h) (fun b hb e => hneV b hb e)
      have hM4 : Mod (fun _ => False) w w4 := hMr.trans hm4 (fun _ _ h => h) (fun _ _ h => h)
      have hB4 := hBr.mod hm4 (fun h => h)
      obtain ⟨ov, cv, ev⟩ : ∃ ao cp, u8 = .slice ao j cp := by
        rcases hD.row.2 with ⟨ev, h0⟩ | ⟨g, cp, cur, ev, _⟩
        · exact ⟨none, 0, by rw [ev, h0]⟩
        · exact ⟨_, cp, ev⟩
      subst ev
      have hrow : ∀ ob : Obj, (w4.alloc ob).ownsRow 0 28 13 (.slice ov j cv) j (fl ⟨1, o, lf, i, 0, 0, g, s, 0, 0, 0, 0, []⟩ n pl V j) := fun ob => by
        obtain ⟨r1, r2⟩ := hD.row
        refine ⟨r1, ?_⟩
        rcases r2 with r2 | ⟨g', cp', cur, e', hb', hg', rr⟩
        · exact .inl r2
        · exact .inr ⟨g', cp', cur, e', hb', (hm4.alloc ob).obj hg' (fun h => h), rr⟩
      obtain ⟨i0, hi, hz0, hz1, hz2⟩ := info_parts infoMq
      have y0 : w4.cell? ⟨bx, 0, none⟩ = some (.int .i64 1) := hBy.cellv (j := 0) rfl
      have y1 : w4.cell? ⟨bx, 1, none⟩ = some (.int .i64 o) := hBy.cellv (j := 1) rfl
      have y2 : w4.cell? ⟨bx, 2, none⟩ = some (.int .i64 lf) := hBy.cellv (j := 2) rfl
      have y3 : w4.cell? ⟨bx, 3, none⟩ = some (.int .i64 i) := hBy.cellv (j := 3) rfl
      have y4 : w4.cell? ⟨bx, 4, none⟩ = some (.int .i64 (j : Int)) := hBy.cellv (j := 4) rfl
      have y5 : w4.cell? ⟨bx, 5, none⟩ = some (.int .i64 (n : Int)) := hBy.cellv (j := 5) rfl
      have y6 : w4.cell? ⟨bx, 6, none⟩ = some (.int .i64 g) := hBy.cellv (j := 6) rfl
      have y7 : w4.cell? ⟨bx, 7, none⟩ = some (.bool s) := hBy.cellv (j := 7) rfl
      have y8 : w4.cell? ⟨bx, 8, none⟩ = some (.int .i64 0) := hBy.cellv (j := 8) rfl
      have y9 : w4.cell? ⟨bx, 9, none⟩ = some (.int .i64 0) := hBy.cellv (j := 9) rfl
      have y10 : w4.cell? ⟨bx, 10, none⟩ = some (.int .i64 0) := hBy.cellv (j := 10) rfl
      have y11 : w4.cell? ⟨bx, 11, none⟩ = some (.int .i64 0) := hBy.cellv (j := 11) rfl
      have y12 : w4.cell? ⟨bx, 12, none⟩ = some (.slice a1 c1.length k1) := hBy.cellv (j := 12) rfl
      have hnn : j + 1 ≤ 5 := by go_light; omega
      clear hKi hKi2 hw1 hw2 hw3 hw4 hw5 hEE hKE' hEc hKE2 hEc2 hpW hlc hcm d12 z12
      go_upto_region 11 with (at_builtin; refine wpList_append_lies _ rfl _ _ 31 rfl 0 28 i0 _ 13 120 Try.underlying31 hi hz0 hz1 hz2 rfl (by decide) (.slice ov j cv) j (fl ⟨1, o, lf, i, 0, 0, g, s, 0, 0, 0, 0, []⟩ n pl V j) rfl (hrow _) ⟨w4.heap.size, 0, none⟩ 1 1 [.int .i64 1, .int .i64 o, .int .i64 lf, .int .i64 i, .int .i64 (j : Int), .int .i64 (n : Int), .int .i64 g, .bool s, .int .i64 0, .int .i64 0, .int .i64 0, .int .i64 0, .slice a1 c1.length k1] rfl rfl (by exact appL _ _ _) (by simp [Value.oneCell']) (by omega) (by simp only [maxLen]; omega) (by omega) (Nat.zero_le _) (w4.heap.size + 1) (by simp) ?_; intro G cap1 w5 hown1 hgrow hg5 hlt5)
      have hr4 : w4.ownsRow 0 28 13 (.slice ov j cv) j (fl ⟨1, o, lf, i, 0, 0, g, s, 0, 0, 0, 0, []⟩ n pl V j) := by
        obtain ⟨r1, r2⟩ := hD.row
        refine ⟨r1, ?_⟩
        rcases r2 with r2 | ⟨g', cp', cur, e', hb', hg', rr⟩
        · exact .inl r2
        · exact .inr ⟨g', cp', cur, e', hb', hm4.obj hg' (fun h => h), rr⟩
      have hm5 : Mod (fun k => (Value.slice ov j cv).ownBlock = some k) w4 w5 := ((Mod.refl _ w4).alloc _).grown hgrow (fun k hk _ => hk)
      have hM5 : Mod (fun _ => False) w w5 := hM4.trans hm5 (fun _ _ h => h) (fun b hb e => absurd hb (Nat.not_lt.2 (Nat.le_of_succ_le (hD.new b e))))
      have hB5 := hB4.mod hm5 (fun e => by have := hD.new b0 e; rw [HB0.out] at this; exact absurd this (Nat.not_succ_le_self _))
      have hW1 : Hid (w.heap.size + 1 ≤ W.heap.size) := by
        show _ ≤ _
        have q1 := hBx.lt
        have q2 := hszW.out.1
        have q3 := HBX.out
        exact Nat.le_trans (Nat.succ_le_succ q2) (Nat.succ_le_of_lt (q3 ▸ q1))
      have hD5 : Dp w5 (.slice (some ⟨G, 0, none⟩) (j + 1) cap1) (w.heap.size + 1) ⟨1, o, lf, i, 0, 0, g, s, 0, 0, 0, 0, []⟩ n pl (fun i => if i = j then .slice a1 c1.length k1 else V i) (j + 1) := by
        refine ⟨?_, fun i hi => ?_, fun b hb => ?_⟩
        · have e : fl ⟨1, o, lf, i, 0, 0, g, s, 0, 0, 0, 0, []⟩ n pl (fun i => if i = j then Value.slice a1 c1.length k1 else V i) (j + 1) = fl ⟨1, o, lf, i, 0, 0, g, s, 0, 0, 0, 0, []⟩ n pl V j ++ [.int .i64 1, .int .i64 o, .int .i64 lf, .int .i64 i, .int .i64 (j : Int), .int .i64 (n : Int), .int .i64 g, .bool s, .int .i64 0, .int .i64 0, .int .i64 0, .int .i64 0, .slice a1 c1.length k1] := by
            rw [fl, fl_ext ⟨1, o, lf, i, 0, 0, g, s, 0, 0, 0, 0, []⟩ n pl (V' := V) j (fun i hi => if_neg (Nat.ne_of_lt hi)), if_pos rfl]
            rfl
          rw [e]
          exact hown1
        · by_cases e : i = j
          · rw [if_pos e, e, ← HC1.out]
            exact ⟨ho1.mod hm5 (fun b hb => own_row hr4 ho1 hb), fun b hb => Nat.le_trans hW1.out (hv1 b hb)⟩
          · rw [if_neg e]
            obtain ⟨q1, q2⟩ := hD.own i (Nat.lt_of_le_of_ne (Nat.le_of_lt_succ hi) e)
            have q3 := q1.mod hm4 (fun _ _ h => h)
            exact ⟨q3.mod hm5 (fun b hb => own_row hr4 q3 hb), q2⟩
        · simp only [Value.ownBlock, Option.some.injEq] at hb
          subst hb
          rcases hg5 with h | h
          · exact hD.new _ h
          · rw [h]
            exact Nat.le_succ_of_le (Nat.le_trans hW1.out hmy.size)
      clear hrow hown1 hgrow hg5 hlt5 hr4 hm5 hD hBr hB4 hBy hm4 hM4 hMr hneV hmy ho1 hv1 hBx hMW hMwW y0 y1 y2 y3 y4 y5 y6 y7 y8 y9 y10 y11 y12
      go_wp2_with (fail)
      go_roundw
      case rel => exact ⟨j + 1, _, by go_num, hjn, hD5, hB5, hM5⟩
      case measure => simp [intOf]; go_light; omega
    · have ej : j = n := by go_light; omega
      subst ej
      obtain ⟨ov, cv, ev⟩ : ∃ ao cp, u8 = .slice ao j cp := by
        rcases hD.row.2 with ⟨ev, h0⟩ | ⟨g, cp, cur, ev, _⟩
        · exact ⟨none, 0, by rw [ev, h0]⟩
        · exact ⟨_, cp, ev⟩
      subst ev
      go_wp2_with (fail)
      go_ret2
      exact ⟨.slice ov j cv, V, rfl, ⟨hD.row, fun i hi => ⟨(hD.own i hi).1, fun b hb => Nat.le_of_succ_le ((hD.own i hi).2 b hb)⟩, fun b hb => Nat.le_of_succ_le (hD.new b hb)⟩, hMr⟩
end Go.Proofs.Ytifogbhlphofjaa
