/- WindowNames holds: the chapter's examples, windows that are none. Conditions: none. -/
import Derived.Test.YtejlcoakencdiaaYnl
import Derived.Test.YtejlcoakencdiaaYz
import Derived.Test.YtejlcoakencdiaaYm
namespace Go.Proofs.Ytejlcoakencdiaa
open Go.RowKit
theorem infoR : (Try.prog.info? 28).map (·.size) = some 2 := by kernel_rfl
theorem flat_get : ∀ (es : List (Bool × Int × Dt × Value)) (i : Nat) (e : Bool × Int × Dt × Value), es[i]? = some e → ∀ t c, (ocl e)[t]? = some c → (es.flatMap ocl)[i * 20 + t]? = some c
  | [], i, e, h => by simp at h
  | x :: r, 0, e, h => fun t c hc => by
    simp at h
    subst h
    rw [List.flatMap_cons, List.getElem?_append_left (by have := ocl_lt hc; show _ < 20; omega), Nat.zero_mul, Nat.zero_add]
    exact hc
  | x :: r, i + 1, e, h => fun t c hc => by
    rw [List.flatMap_cons, List.getElem?_append_right (by show 20 ≤ _; omega), show (i + 1) * 20 + t - (ocl x).length = i * 20 + t from by show _ - 20 = _; omega]
    exact flat_get r i e (by simpa using h) t c hc
theorem Lr.dos {w : World} {v : Value} (h : Lr v w) : Dos w v exs := by
  obtain ⟨g, rfl, hB⟩ := h
  refine ⟨⟨_, _, rfl, by decide, fun _ => ⟨g, 0, rfl, fun i e he => hB.range _ _ fun j c hc => ?_⟩⟩, fun e he => ?_⟩
  · have := flat_get exs i e he j c hc
    rw [List.getElem?_toArray, Nat.zero_add]
    exact this
  · simp only [exs, List.mem_cons, List.not_mem_nil, or_false] at he
    rcases he with rfl | rfl | rfl | rfl | rfl | rfl | rfl | rfl | rfl | rfl | rfl | rfl | rfl | rfl <;> exact ⟨Own.nilSl w, by decide, by unfold I64; dsimp only; omega⟩
theorem Dos.keep {w w' : World} {v : Value} {es : List (Bool × Int × Dt × Value)} (h : Dos w v es) (hm : Mod (fun _ => False) w w') : Dos w' v es := by
  obtain ⟨ao, cap, rfl, h1, h2⟩ := h.form
  refine ⟨⟨ao, cap, rfl, h1, fun hne => ?_⟩, fun e he => ?_⟩
  · obtain ⟨b, off, rfl, hr⟩ := h2 hne
    exact ⟨b, off, rfl, fun i e he t c ht => hm.cell (hr i e he t c ht) (fun h => h)⟩
  · obtain ⟨h3, h4, h5⟩ := h.each e he
    exact ⟨h3.mod hm (fun _ _ h => h), h4, h5⟩
set_option maxRecDepth 100000 in
set_option maxHeartbeats 8000000 in
theorem names_walk (w : World) : Calls Try.prog 6 #[] w fun e w' => e = .returned (.bool true) ∧ Mod (fun _ => False) w w' := by
  go_enter Try.func6, Try.ntmps6
  go_wp2_with (fail)
  go_loopw [1, 2] (fun s i wr => ∃ (k : Nat) (q : Option Addr), s = .pointer q ∧ i = .int .i64 (k : Int) ∧ k ≤ 2 ∧ Hid (Nw wr q ∧ Mod (fun _ => False) w wr)) (fun _ i _ => 2 - (intOf i).toNat)
  case atStart => exact ⟨0, none, rfl, rfl, by omega, ⟨Nw.nil w, Mod.refl _ _⟩⟩
  case round =>
  obtain ⟨k, q, rfl, rfl, hk, HN⟩ := hrel
  obtain ⟨wk, ewk⟩ : ∃ wk, wk = wr := ⟨_, rfl⟩
  subst ewk
  by_cases hk2 : (k : Int) < 2
  · go_wp2_with (fail)
    refine (one_any 0 _).mono ?_
    rintro e w1 ⟨rfl, hm1⟩
    have HN1 : Hid (Nw w1 q ∧ Mod (fun _ => False) w w1) := ⟨HN.out.1.keep hm1, HN.out.2.and hm1⟩
    clear HN hm1
    go_wp2_with (fail)
    refine (Put_none HN1.out.1 (on 0) none 0).mono ?_
    rintro e w2 ⟨rfl, hm2⟩
    have HN2 : Hid (Nw w2 q ∧ Mod (fun _ => False) w w2) := ⟨HN1.out.1.keep hm2, HN1.out.2.and hm2⟩
    clear HN1 hm2
    go_wp2_with (fail)
    refine (Get_none HN2.out.1 1).mono ?_
    rintro e w3 ⟨rfl, hm3⟩
    have HN3 : Hid (Nw w3 q ∧ Mod (fun _ => False) w w3) := ⟨HN2.out.1.keep hm3, HN2.out.2.and hm3⟩
    clear HN2 hm3
    have HZ : Hid (Bk _ _ _ _) := Bk.new w3 #[.int .i64 0, .int .i64 0, .int .i64 0, .int .i64 0, .int .i64 0, .int .i64 0, .int .i64 0, .int .i64 0, .int .i64 0, .int .i64 0, .int .i64 0, .int .i64 0, .bool false, .int .i64 0, .int .i64 0, .int .i64 0, .int .i64 0, .slice none 0 0] 35
    unfold dv d0
    go_wp2_with (refine wpList_store_row info18 rfl rfl _ _ rfl w3.heap.size #[.int .i64 0, .int .i64 0, .int .i64 0, .int .i64 0, .int .i64 0, .int .i64 0, .int .i64 0, .int .i64 0, .int .i64 0, .int .i64 0, .int .i64 0, .int .i64 0, .bool false, .int .i64 0, .int .i64 0, .int .i64 0, .int .i64 0, .slice none 0 0] rfl rfl HZ.out rfl rfl rfl ?_; intro w4 hB4 hM4)
    have hm4 := ((Mod.refl (fun _ => False) w3).alloc (.cells #[.int .i64 0, .int .i64 0, .int .i64 0, .int .i64 0, .int .i64 0, .int .i64 0, .int .i64 0, .int .i64 0, .int .i64 0, .int .i64 0, .int .i64 0, .int .i64 0, .bool false, .int .i64 0, .int .i64 0, .int .i64 0, .int .i64 0, .slice none 0 0] 35)).trans hM4 (V := fun _ => False) (fun _ _ h => h) (fun i hi e => by omega)
    have HN4 : Hid (Nw w4 q ∧ Mod (fun _ => False) w w4) := ⟨HN3.out.1.keep hm4, HN3.out.2.and hm4⟩
    clear HN3 hm4 hM4 hB4 HZ
    refine (See_none HN4.out.1 (-1)).mono ?_
    rintro e w5 ⟨rfl, rfl⟩
    go_wp2_with (fail)
    refine (Aru_none HN4.out.1).mono ?_
    rintro e w6 ⟨rfl, rfl⟩
    go_wp2_with (fail)
    refine (High_none HN4.out.1).mono ?_
    rintro e w7 ⟨rfl, rfl⟩
    go_wp2_with (fail)
    refine (Gaps_none HN4.out.1 5).mono ?_
    rintro e w8 ⟨rfl, rfl⟩
    go_wp2_with (fail)
    refine (Above_none HN4.out.1 0).mono ?_
    rintro e w9 ⟨rfl, rfl⟩
    have HB9 : Hid (Bk _ _ _ _) := Bk.new w9 #[.map none, .int .i64 0, .int .i64 0] 62
    go_wp2_with (fail)
    go_roundw
    case rel => exact ⟨k + 1, _, rfl, by go_num, by omega, ⟨Nw.zero HB9.out rfl, HN4.out.2.alloc _⟩⟩
    case measure => simp [intOf]; omega
  · have HMk : Hid (Mod (fun _ => False) w wk) := HN.out.2
    clear HN
    go_wp2_with (fail)
    refine (one_any 5 _).mono ?_
    rintro e w1 ⟨rfl, hm1⟩
    have HM1 : Hid (Mod (fun _ => False) w w1) := HMk.out.and hm1
    clear HMk hm1
    have HZ1 : Hid (Bk _ _ _ _) := Bk.new w1 #[.int .i64 0, .int .i64 0, .int .i64 0, .int .i64 0, .int .i64 0, .int .i64 0, .int .i64 0, .int .i64 0, .int .i64 0, .int .i64 0, .int .i64 0, .int .i64 0, .bool false, .int .i64 0, .int .i64 0, .int .i64 0, .int .i64 0, .slice none 0 0] 35
    unfold dv on
    go_wp2_with (first | (refine wpList_store_row info18 rfl rfl _ _ rfl w1.heap.size #[.int .i64 1, .int .i64 1, .int .i64 5, .int .i64 1, .int .i64 0, .int .i64 3, .int .i64 1, .int .i64 0, .int .i64 5, .int .i64 0, .int .i64 0, .int .i64 0, .bool false, .int .i64 0, .int .i64 0, .int .i64 0, .int .i64 0, .slice none 0 0] rfl rfl HZ1.out rfl rfl rfl ?_; intro w2 hB2 hM2) | (refine wpList_store_part infoR rfl rfl _ _ rfl w1.heap.size 0 #[.int .i64 1, .int .i64 0] rfl rfl hB2 (by decide) rfl rfl #[.int .i64 1, .int .i64 0, .int .i64 5, .int .i64 1, .int .i64 0, .int .i64 3, .int .i64 1, .int .i64 0, .int .i64 5, .int .i64 0, .int .i64 0, .int .i64 0, .bool false, .int .i64 0, .int .i64 0, .int .i64 0, .int .i64 0, .slice none 0 0] rfl ?_; intro w3 hB3 hM3))
    have hm2 := ((Mod.refl (fun _ => False) w1).alloc (.cells #[.int .i64 0, .int .i64 0, .int .i64 0, .int .i64 0, .int .i64 0, .int .i64 0, .int .i64 0, .int .i64 0, .int .i64 0, .int .i64 0, .int .i64 0, .int .i64 0, .bool false, .int .i64 0, .int .i64 0, .int .i64 0, .int .i64 0, .slice none 0 0] 35)).trans hM2 (V := fun _ => False) (fun _ _ h => h) (fun i hi e => by omega)
    have HM3 : Hid (Mod (fun _ => False) w w3) := HM1.out.and (hm2.trans hM3 (fun _ _ h => h) (fun i hi e => by omega))
    have HB3 : Hid (Bk w3 w1.heap.size 35 #[.int .i64 1, .int .i64 0, .int .i64 5, .int .i64 1, .int .i64 0, .int .i64 3, .int .i64 1, .int .i64 0, .int .i64 5, .int .i64 0, .int .i64 0, .int .i64 0, .bool false, .int .i64 0, .int .i64 0, .int .i64 0, .int .i64 0, .slice none 0 0]) := hB3
    obtain ⟨bA, ebA⟩ : ∃ bA, bA = w1.heap.size := ⟨_, rfl⟩
    rw [← ebA] at HB3 ⊢
    clear hm2 hM2 hM3 hB2 hB3 HZ1 HM1 ebA
    refine (one_any 9007199254740991 _).mono ?_
    rintro e w4 ⟨rfl, hm4⟩
    have HM4 : Hid (Mod (fun _ => False) w w4) := HM3.out.and hm4
    have HB4 : Hid (Bk w4 bA _ _) := HB3.out.mod hm4 (fun h => h)
    clear HM3 HB3 hm4
    have HZ4 : Hid (Bk _ _ _ _) := Bk.new w4 #[.int .i64 0, .int .i64 0, .int .i64 0, .int .i64 0, .int .i64 0, .int .i64 0, .int .i64 0, .int .i64 0, .int .i64 0, .int .i64 0, .int .i64 0, .int .i64 0, .bool false, .int .i64 0, .int .i64 0, .int .i64 0, .int .i64 0, .slice none 0 0] 35
    unfold dv on
    go_upto_region 13 with (refine wpList_store_row info18 rfl rfl _ _ rfl w4.heap.size #[.int .i64 1, .int .i64 1, .int .i64 9007199254740991, .int .i64 1, .int .i64 0, .int .i64 3, .int .i64 1, .int .i64 0, .int .i64 9007199254740991, .int .i64 0, .int .i64 0, .int .i64 0, .bool false, .int .i64 0, .int .i64 0, .int .i64 0, .int .i64 0, .slice none 0 0] rfl rfl HZ4.out rfl rfl rfl ?_; intro w5 hB5 hM5)
    have hm5 := ((Mod.refl (fun _ => False) w4).alloc (.cells #[.int .i64 0, .int .i64 0, .int .i64 0, .int .i64 0, .int .i64 0, .int .i64 0, .int .i64 0, .int .i64 0, .int .i64 0, .int .i64 0, .int .i64 0, .int .i64 0, .bool false, .int .i64 0, .int .i64 0, .int .i64 0, .int .i64 0, .slice none 0 0] 35)).trans hM5 (V := fun _ => False) (fun _ _ h => h) (fun i hi e => by omega)
    have HM5 : Hid (Mod (fun _ => False) w w5) := HM4.out.and hm5
    have HA5 : Hid (Bk w5 bA _ _) := HB4.out.mod hm5 (fun h => h)
    have HB5 : Hid (Bk w5 w4.heap.size 35 #[.int .i64 1, .int .i64 1, .int .i64 9007199254740991, .int .i64 1, .int .i64 0, .int .i64 3, .int .i64 1, .int .i64 0, .int .i64 9007199254740991, .int .i64 0, .int .i64 0, .int .i64 0, .bool false, .int .i64 0, .int .i64 0, .int .i64 0, .int .i64 0, .slice none 0 0]) := hB5
    obtain ⟨bB, ebB⟩ : ∃ bB, bB = w4.heap.size := ⟨_, rfl⟩
    rw [← ebB] at HB5 ⊢
    clear hm5 hM5 hB5 HZ4 HM4 ebB HB4
    refine region13 bA bB ⟨⟨_, rfl, rfl, rfl, rfl, by decide +kernel⟩⟩ ⟨⟨_, rfl, rfl, rfl, rfl, by decide +kernel⟩⟩ ⟨⟨_, rfl, rfl, rfl, rfl, by decide +kernel⟩⟩ ⟨⟨_, rfl, rfl, rfl, rfl, by decide +kernel⟩⟩ ⟨⟨_, rfl, rfl, rfl, rfl, by decide +kernel⟩⟩ ⟨⟨_, rfl, rfl, rfl, rfl, by decide +kernel⟩⟩ ⟨⟨_, rfl, rfl, rfl, rfl, by decide +kernel⟩⟩ ⟨⟨_, rfl, rfl, rfl, rfl, by decide +kernel⟩⟩ ⟨⟨_, rfl, rfl, rfl, rfl, by decide +kernel⟩⟩ ⟨⟨_, rfl, rfl, rfl, rfl, by decide +kernel⟩⟩ ⟨⟨_, rfl, rfl, rfl, rfl, by decide +kernel⟩⟩ ⟨⟨_, rfl, rfl, rfl, rfl, by decide +kernel⟩⟩ ⟨⟨_, rfl, rfl, rfl, rfl, by decide +kernel⟩⟩ ⟨⟨_, rfl, rfl, rfl, rfl, by decide +kernel⟩⟩ ⟨⟨_, rfl, rfl, rfl, rfl, by decide +kernel⟩⟩ ⟨⟨_, rfl, rfl, rfl, rfl, by decide +kernel⟩⟩ ⟨⟨_, rfl, rfl, rfl, rfl, by decide +kernel⟩⟩ ⟨⟨_, rfl, rfl, rfl, rfl, by decide +kernel⟩⟩ ⟨⟨_, rfl, rfl, rfl, rfl, by decide +kernel⟩⟩ ⟨⟨_, rfl, rfl, rfl, rfl, by decide +kernel⟩⟩ ⟨⟨_, rfl, rfl, rfl, rfl, by decide +kernel⟩⟩ ⟨⟨_, rfl, rfl, rfl, rfl, by decide +kernel⟩⟩ ⟨⟨_, rfl, rfl, rfl, rfl, by decide +kernel⟩⟩ ⟨⟨_, rfl, rfl, rfl, rfl, by decide +kernel⟩⟩ ⟨⟨_, rfl, rfl, rfl, rfl, by decide +kernel⟩⟩ ⟨⟨_, rfl, rfl, rfl, rfl, by decide +kernel⟩⟩ rfl (by decide +kernel) rfl (by decide +kernel) rfl rfl rfl HA5.out.row HB5.out.row ?_
    intro y66 y67 y68 y69 y70 y71 y72 y73 y74 y75 y76 y77 y78 y79 y80 y81 y82 y83 y84 y85 y86 y87 y88 y89 y90 lv w6 hm6 hL6
    have HM6 : Hid (Mod (fun _ => False) w w6) := (HM5.out.and ((Mod.refl (fun _ => False) w5).drew)).and hm6
    have HD6 : Hid (Dos w6 lv exs) := hL6.dos
    clear hm6 hL6 HM5 HA5 HB5
    simp only [puts, Act.put, List.setIfInBounds_toArray, List.set_cons_succ, List.set_cons_zero]
    go_wp2_with (fail)
    refine (awake_any _).mono ?_
    rintro e w7 ⟨rfl, hm7⟩
    have HD7 : Hid (Dos w7 lv exs) := HD6.out.keep hm7
    have HM7 : Hid (Mod (fun _ => False) w w7) := HM6.out.and hm7
    clear hm7 HD6 HM6
    go_wp2_with (fail)
    refine (plays_walk lv exs _ HD7.out).mono ?_
    rintro e w8 ⟨rfl, hm8⟩
    go_wp2
    go_ret
    exact ⟨rfl, HM7.out.and hm8⟩
namespace windowNames
open Go.ChangeShapes Go.WideShapes Go.ChangeAt Go.RowKit
set_option maxRecDepth 100000 in
theorem lifted (os : Os) (started : os.Started) (H : Type) (enc : TypeId × Value → H) :
    ReturnsInHanded {} Try.checked os 6 .any (Rows.windowNamesSpec.pre6 enc Try.prog Try.f6 Rows.windowNamesRow.domain false) (Rows.windowNamesSpec.post enc Try.prog Try.f6 false true false false) := by
  refine returnsInHanded_of_change_sized (C := Try.checked) own started (by kernel_rfl) Try.func6
    (ChangeSpec.witness6 (enc := enc) (C := Try.checked) false ⟨#[], #[], []⟩ 8 (by kernel_rfl) (by kernel_rfl) (by kernel_rfl) (by kernel_rfl)) ?_
  intro W base args ds gs before hval0 hW hcnd hsz0 _
  have hval : ∀ (j : Nat) t v, Try.f6.params[j]? = some t → args[j]? = some v → Value.okWide Try.prog W .any base t v := hval0
  have hsz : (DataW.weightsEach Try.prog (Try.f6.params.toList ++ Rows.windowNamesSpec.plain.varTypes Try.prog) (ds ++ gs)).all (· ≤ reachBytes) = true := hsz0
  have hW' := hW
  obtain ⟨p, q, hA0, hV, rfl, hfz, hnd⟩ := hW
  have hA : DataW.TrodAll enc Try.prog W 0 (fun _ => true) true Try.f6.params.toList args.toList ds p := hA0
  rw [Try.params6] at hA hval hsz
  obtain ⟨hargs, rfl, rfl⟩ := trodAll_nil hA
  obtain rfl : args = #[] := by cases args; simp_all
  obtain ⟨rfl, rfl⟩ := trodVars_none hV
  clear hA0 hval0
  refine (names_walk W).mono fun e W' ⟨he, hm⟩ => ?_
  subst he
  have bel : Below W.heap.size W W' := hm.below _ (Nat.le_refl _) (fun _ h => h.elim)
  exact ⟨_, rfl, _, _, _, [], _, [], hW', trodAll_mk1 (shut_bool Try.underlying4 _), trodAll_mk0, rfl, bel.frame _, fun h => by cases h⟩

theorem over : Rows.windowNamesRow.holds Try.pinned (OpenSpec.ofChange Rows.windowNamesSpec) :=
  OpenClaim.holds_of_wide 6 Try.f6 rfl rfl rfl rfl rfl rfl rfl ⟨rfl, rfl, rfl, rfl, rfl⟩ rfl rfl rfl rfl rfl (by kernel_rfl) Try.func6 (by kernel_rfl)
    (of_decide_eq_true (by kernel_rfl)) (by unfold Func.isWrapper; first | (rw [if_pos (by decide +kernel)]; kernel_rfl) | (rw [if_neg (by decide +kernel)]; exact ⟨rfl, rfl⟩))
    (fun os started H enc _ => lifted os started H enc)
end windowNames
theorem windowNames_holds : Rows.WindowNamesSaid := windowNames.over
end Go.Proofs.Ytejlcoakencdiaa
