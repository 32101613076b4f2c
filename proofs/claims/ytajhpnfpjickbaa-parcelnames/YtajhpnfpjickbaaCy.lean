/- Contract of the statements' own awake. No conditions. -/
import Derived.Test.YtajhpnfpjickbaaCx
import Derived.Deep.RegionHeld3
namespace Go.Proofs.Ytajhpnfpjickbaa
open Go.RowKit
def mk0 : Ms := ⟨2, 3, 0, 0, 0, 0, 0, false, 5, 2, 1, 7, []⟩
def tx0 : Ms := ⟨1, 1, 9, 2, 0, 1, 130, true, 0, 0, 0, 0, [65]⟩
theorem mk0_chk : chk mk0 = 0 := by decide +kernel
theorem tx0_chk : chk tx0 = 0 := by decide +kernel
theorem mk0_pk : pk mk0 = [2, 3, 0, 0, 0, 0, 0, 0, 5, 2, 1, 7, 0] := by decide +kernel
theorem tx0_pk : pk tx0 = [1, 1, 9, 2, 0, 1, 130, 1, 1, 0, 0, 0, 0, 1, 65] := by decide +kernel
theorem tx0_un : prM [1, 1, 9, 2, 0, 1, 130, 1, 1, 0, 0, 0, 0, 1, 65] = tx0 ∧ unE [1, 1, 9, 2, 0, 1, 130, 1, 1, 0, 0, 0, 0, 1, 65] = 0 := by
  have := un_pk0 tx0_chk
  rw [tx0_pk] at this
  exact this
set_option maxRecDepth 100000 in
set_option maxHeartbeats 4000000 in
theorem awake (w : World) : Calls Try.prog 19 #[] w fun e w' => e = .returned (.bool true) ∧ Mod (fun _ => False) w w' := by
  have HP1 := fun W h => Pack_any 2 3 0 0 0 0 0 false 5 2 1 7 none 0 [] W h
  have HP2 := fun ao cap W h => Pack_any 1 1 9 2 0 1 130 true 0 0 0 0 ao cap [65] W h
  have HU := fun v W h => Unpack_any v [1, 1, 9, 2, 0, 1, 130, 1, 1, 0, 0, 0, 0, 1, 65] W h (by simp)
  rw [show chk ⟨2, 3, 0, 0, 0, 0, 0, false, 5, 2, 1, 7, []⟩ = 0 from mk0_chk, show pk ⟨2, 3, 0, 0, 0, 0, 0, false, 5, 2, 1, 7, []⟩ = [2, 3, 0, 0, 0, 0, 0, 0, 5, 2, 1, 7, 0] from mk0_pk] at HP1
  rw [show chk ⟨1, 1, 9, 2, 0, 1, 130, true, 0, 0, 0, 0, [65]⟩ = 0 from tx0_chk, show pk ⟨1, 1, 9, 2, 0, 1, 130, true, 0, 0, 0, 0, [65]⟩ = [1, 1, 9, 2, 0, 1, 130, 1, 1, 0, 0, 0, 0, 1, 65] from tx0_pk] at HP2
  unfold Unp at HU
  rw [tx0_un.1, tx0_un.2] at HU
  have hr1 : ∀ c ∈ ([2, 3, 0, 0, 0, 0, 0, 0, 5, 2, 1, 7, 0] : List Int), 0 ≤ c ∧ c ≤ 255 := by simp
  have hr2 : ∀ c ∈ ([1, 1, 9, 2, 0, 1, 130, 1, 1, 0, 0, 0, 0, 1, 65] : List Int), 0 ≤ c ∧ c ≤ 255 := by simp
  have hr3 : ∀ c ∈ ([65] : List Int), 0 ≤ c ∧ c ≤ 255 := by simp
  go_enter Try.func19, Try.ntmps19
  go_wp2_with (fail)
  refine (marked _).mono ?_
  rintro e w1 ⟨rfl, hm1⟩
  go_wp2_with (fail)
  refine (HP1 _ (Own.sl (Own.nil w1) (by simp))).mono ?_
  rintro e w2 ⟨v1, rfl, hm2, hok1, _⟩
  obtain ⟨ho1, _⟩ := hok1 trivial
  have hM2 := hm1.trans hm2 (V := fun _ => False) (fun _ _ h => h) (fun _ _ h => h)
  clear HP1 hok1 hm1 hm2
  go_wp2_with (fail)
  refine (text _).mono ?_
  rintro e w3 ⟨ao, cap, rfl, hot, hm3, _⟩
  have hM3 := hM2.trans hm3 (V := fun _ => False) (fun _ _ h => h) (fun _ _ h => h)
  have hx1 := ho1.mod hm3 (fun _ _ h => h)
  go_wp2_with (fail)
  refine (HP2 _ _ _ (hot.sl hr3)).mono ?_
  rintro e w4 ⟨v2, rfl, hm4, hok2, _⟩
  obtain ⟨ho2, _⟩ := hok2 trivial
  have hM4 := hM3.trans hm4 (V := fun _ => False) (fun _ _ h => h) (fun _ _ h => h)
  have hx4 := hx1.mod hm4 (fun _ _ h => h)
  clear HP2 hok2 hot ho1 hx1 hm3 hm4 hM2 hM3
  go_wp2_with (fail)
  refine (HU v2 w4 (ho2.sl hr2)).mono ?_
  rintro e w5 ⟨k, o, lf, i, p, ps, g, s, st, rs, rr, sq, bv, rfl, hm5, hok3, _⟩
  obtain ⟨he, ho3, _⟩ := hok3 trivial
  simp only [tx0, Ms.mk.injEq] at he ho3
  obtain ⟨rfl, rfl, rfl, rfl, rfl, rfl, rfl, rfl, rfl, rfl, rfl, rfl, _⟩ := he
  obtain ⟨ao3, cap3, rfl⟩ := ho3.shape
  have hM5 := hM4.trans hm5 (V := fun _ => False) (fun _ _ h => h) (fun _ _ h => h)
  have hy1 := hx4.mod hm5 (fun _ _ h => h)
  have hy2 := ho2.mod hm5 (fun _ _ h => h)
  clear HU hok3 hx4 ho2 hm5 hM4
  have hA := (Mod.refl (fun _ => False) w5).alloc (.cells #[.int .i64 1, .int .i64 1, .int .i64 9, .int .i64 2, .int .i64 0, .int .i64 1, .int .i64 130, .bool true, .int .i64 0, .int .i64 0, .int .i64 0, .int .i64 0, (.slice ao3 1 cap3)] 28)
  have hb := MB.new w5 1 1 9 2 0 1 130 true 0 0 0 0 (.slice ao3 1 cap3)
  have hz1 := hy1.mod hA (fun _ _ h => h)
  have hz2 := hy2.mod hA (fun _ _ h => h)
  have hz3 := ho3.mod hA (fun _ _ h => h)
  have hM6 := hM5.alloc (.cells #[.int .i64 1, .int .i64 1, .int .i64 9, .int .i64 2, .int .i64 0, .int .i64 1, .int .i64 130, .bool true, .int .i64 0, .int .i64 0, .int .i64 0, .int .i64 0, (.slice ao3 1 cap3)] 28)
  obtain ⟨a0, a1, a2, a3, a4, a5, a6, a7, a8, a9, a10, a11, a12⟩ := hb.cells
  have hL1 := Own.lit (w5.alloc (.cells #[.int .i64 1, .int .i64 1, .int .i64 9, .int .i64 2, .int .i64 0, .int .i64 1, .int .i64 130, .bool true, .int .i64 0, .int .i64 0, .int .i64 0, .int .i64 0, (.slice ao3 1 cap3)] 28)) [2, 3, 0, 0, 0, 0, 0, 0, 5, 2, 1, 7, 0] (by simp [maxLen])
  rw [show (w5.alloc (.cells #[.int .i64 1, .int .i64 1, .int .i64 9, .int .i64 2, .int .i64 0, .int .i64 1, .int .i64 130, .bool true, .int .i64 0, .int .i64 0, .int .i64 0, .int .i64 0, (.slice ao3 1 cap3)] 28)).heap.size = w5.heap.size + 1 from by simp] at hL1
  have hD := ((Mod.refl (fun _ => False) (w5.alloc (.cells #[.int .i64 1, .int .i64 1, .int .i64 9, .int .i64 2, .int .i64 0, .int .i64 1, .int .i64 130, .bool true, .int .i64 0, .int .i64 0, .int .i64 0, .int .i64 0, (.slice ao3 1 cap3)] 28))).alloc (.cells (U [2, 3, 0, 0, 0, 0, 0, 0, 5, 2, 1, 7, 0]).toArray 5)).drew
  have H1 : Calls Try.prog 17 #[v1, .slice (some ⟨w5.heap.size + 1, 0, none⟩) 13 13] ((w5.alloc (.cells #[.int .i64 1, .int .i64 1, .int .i64 9, .int .i64 2, .int .i64 0, .int .i64 1, .int .i64 130, .bool true, .int .i64 0, .int .i64 0, .int .i64 0, .int .i64 0, (.slice ao3 1 cap3)] 28)).alloc (.cells #[.int .u8 2, .int .u8 3, .int .u8 0, .int .u8 0, .int .u8 0, .int .u8 0, .int .u8 0, .int .u8 0, .int .u8 5, .int .u8 2, .int .u8 1, .int .u8 7, .int .u8 0] 5)).drew fun e w' => e = .returned (.bool true) ∧ Own w' v2 [1, 1, 9, 2, 0, 1, 130, 1, 1, 0, 0, 0, 0, 1, 65] ∧ Own w' (.slice ao3 1 cap3) [65] ∧ MB w' w5.heap.size 1 1 9 2 0 1 130 true 0 0 0 0 (.slice ao3 1 cap3) ∧ Mod (fun _ => False) w w' := by
    refine (EqBytes_any v1 _ [2, 3, 0, 0, 0, 0, 0, 0, 5, 2, 1, 7, 0] [2, 3, 0, 0, 0, 0, 0, 0, 5, 2, 1, 7, 0] _ ((hz1.mod hD (fun _ _ h => h)).sl hr1) (Own.sl hL1 hr1)).mono ?_
    rintro e w' ⟨rfl, hm⟩
    exact ⟨rfl, (hz2.mod hD (fun _ _ h => h)).mod hm (fun _ _ h => h), (hz3.mod hD (fun _ _ h => h)).mod hm (fun _ _ h => h), (hb.mod hD (fun h => h)).mod hm (fun h => h), (hM6.trans hD (V := fun _ => False) (fun _ _ h => h) (fun _ _ h => h)).trans hm (V := fun _ => False) (fun _ _ h => h) (fun _ _ h => h)⟩
  have H2 : ∀ W : World, (Own W v2 [1, 1, 9, 2, 0, 1, 130, 1, 1, 0, 0, 0, 0, 1, 65] ∧ Own W (.slice ao3 1 cap3) [65] ∧ MB W w5.heap.size 1 1 9 2 0 1 130 true 0 0 0 0 (.slice ao3 1 cap3) ∧ Mod (fun _ => False) w W) → Calls Try.prog 17 #[v2, .slice (some ⟨W.heap.size, 0, none⟩) 15 15] (W.alloc (.cells #[.int .u8 1, .int .u8 1, .int .u8 9, .int .u8 2, .int .u8 0, .int .u8 1, .int .u8 130, .int .u8 1, .int .u8 1, .int .u8 0, .int .u8 0, .int .u8 0, .int .u8 0, .int .u8 1, .int .u8 65] 5)) fun e w' => e = .returned (.bool true) ∧ Own w' (.slice ao3 1 cap3) [65] ∧ MB w' w5.heap.size 1 1 9 2 0 1 130 true 0 0 0 0 (.slice ao3 1 cap3) ∧ Mod (fun _ => False) w w' := by
    rintro W ⟨k2, k3, kb, km⟩
    have hL2 := Own.lit W [1, 1, 9, 2, 0, 1, 130, 1, 1, 0, 0, 0, 0, 1, 65] (by simp [maxLen])
    have hD2 := (Mod.refl (fun _ => False) W).alloc (.cells (U [1, 1, 9, 2, 0, 1, 130, 1, 1, 0, 0, 0, 0, 1, 65]).toArray 5)
    refine (EqBytes_any v2 _ [1, 1, 9, 2, 0, 1, 130, 1, 1, 0, 0, 0, 0, 1, 65] [1, 1, 9, 2, 0, 1, 130, 1, 1, 0, 0, 0, 0, 1, 65] _ ((k2.mod hD2 (fun _ _ h => h)).sl hr2) (Own.sl hL2 hr2)).mono ?_
    rintro e w' ⟨rfl, hm⟩
    exact ⟨rfl, (k3.mod hD2 (fun _ _ h => h)).mod hm (fun _ _ h => h), (kb.mod hD2 (fun h => h)).mod hm (fun h => h), (km.trans hD2 (V := fun _ => False) (fun _ _ h => h) (fun _ _ h => h)).trans hm (V := fun _ => False) (fun _ _ h => h) (fun _ _ h => h)⟩
  have H3 : ∀ W : World, (Own W (.slice ao3 1 cap3) [65] ∧ MB W w5.heap.size 1 1 9 2 0 1 130 true 0 0 0 0 (.slice ao3 1 cap3) ∧ Mod (fun _ => False) w W) → Calls Try.prog 39 #[] W fun e w' => ∃ ao cap, e = .returned (.agg #[.int .i64 1, .int .i64 1, .int .i64 9, .int .i64 2, .int .i64 0, .int .i64 1, .int .i64 130, .bool true, .int .i64 0, .int .i64 0, .int .i64 0, .int .i64 0, .slice ao 1 cap]) ∧ (Own w' (.slice ao 1 cap) [65] ∧ Own w' (.slice ao3 1 cap3) [65] ∧ MB w' w5.heap.size 1 1 9 2 0 1 130 true 0 0 0 0 (.slice ao3 1 cap3) ∧ Mod (fun _ => False) w w') := by
    rintro W ⟨k3, kb, km⟩
    refine (text W).mono ?_
    rintro e w' ⟨ao, cap, rfl, ho, hm, _⟩
    exact ⟨ao, cap, rfl, ho, k3.mod hm (fun _ _ h => h), kb.mod hm (fun h => h), km.trans hm (V := fun _ => False) (fun _ _ h => h) (fun _ _ h => h)⟩
  have H4 : ∀ (W : World) (ao : Option Addr) (cap : Nat), (Own W (.slice ao 1 cap) [65] ∧ Own W (.slice ao3 1 cap3) [65] ∧ MB W w5.heap.size 1 1 9 2 0 1 130 true 0 0 0 0 (.slice ao3 1 cap3) ∧ Mod (fun _ => False) w W) → Calls Try.prog 34 #[.agg #[.int .i64 1, .int .i64 1, .int .i64 9, .int .i64 2, .int .i64 0, .int .i64 1, .int .i64 130, .bool true, .int .i64 0, .int .i64 0, .int .i64 0, .int .i64 0, .slice ao3 1 cap3], .agg #[.int .i64 1, .int .i64 1, .int .i64 9, .int .i64 2, .int .i64 0, .int .i64 1, .int .i64 130, .bool true, .int .i64 0, .int .i64 0, .int .i64 0, .int .i64 0, .slice ao 1 cap]] W fun e w' => e = .returned (.bool true) ∧ MB w' w5.heap.size 1 1 9 2 0 1 130 true 0 0 0 0 (.slice ao3 1 cap3) ∧ Mod (fun _ => False) w w' := by
    rintro W ao cap ⟨k1, k2, kb, km⟩
    refine (same_eq 1 1 9 2 0 1 130 true 0 0 0 0 ao3 ao cap3 cap [65] W (k2.sl hr3) (k1.sl hr3)).mono ?_
    rintro e w' ⟨rfl, hm⟩
    exact ⟨rfl, kb.mod hm (fun h => h), km.trans hm (V := fun _ => False) (fun _ _ h => h) (fun _ _ h => h)⟩
  clear hy1 hy2 ho3 hz1 hz2 hz3 hL1 hD hr1 hr2 hr3 hM5 hM6 hA
  go_wp2
  go_region_held3 (fun u => u.cell? ⟨w5.heap.size, 0, none⟩ = some (.int .i64 1) ∧ u.cell? ⟨w5.heap.size, 1, none⟩ = some (.int .i64 1) ∧ u.cell? ⟨w5.heap.size, 2, none⟩ = some (.int .i64 9) ∧ u.cell? ⟨w5.heap.size, 3, none⟩ = some (.int .i64 2) ∧ u.cell? ⟨w5.heap.size, 4, none⟩ = some (.int .i64 0) ∧ u.cell? ⟨w5.heap.size, 5, none⟩ = some (.int .i64 1) ∧ u.cell? ⟨w5.heap.size, 6, none⟩ = some (.int .i64 130) ∧ u.cell? ⟨w5.heap.size, 7, none⟩ = some (.bool true) ∧ u.cell? ⟨w5.heap.size, 8, none⟩ = some (.int .i64 0) ∧ u.cell? ⟨w5.heap.size, 9, none⟩ = some (.int .i64 0) ∧ u.cell? ⟨w5.heap.size, 10, none⟩ = some (.int .i64 0) ∧ u.cell? ⟨w5.heap.size, 11, none⟩ = some (.int .i64 0) ∧ u.cell? ⟨w5.heap.size, 12, none⟩ = some (.slice ao3 1 cap3)) (first | exact ⟨a0, a1, a2, a3, a4, a5, a6, a7, a8, a9, a10, a11, a12⟩ | go_keep) (first
    | (go_at_call 17; with_reducible refine H1.mono ?_; rintro e w7 ⟨rfl, k2, k3, kb, km⟩; obtain ⟨a0, a1, a2, a3, a4, a5, a6, a7, a8, a9, a10, a11, a12⟩ := kb.cells; have G7 := And.intro k2 (And.intro k3 (And.intro kb km)); clear k2 k3 kb km)
    | (go_at_call 17; with_reducible refine (H2 _ G7).mono ?_; rintro e w8 ⟨rfl, k3, kb, km⟩; obtain ⟨a0, a1, a2, a3, a4, a5, a6, a7, a8, a9, a10, a11, a12⟩ := kb.cells; have G8 := And.intro k3 (And.intro kb km); clear k3 kb km)
    | (go_at_call 39; with_reducible refine (H3 _ G8).mono ?_; rintro e w9 ⟨ao9, cap9, rfl, G9⟩; obtain ⟨a0, a1, a2, a3, a4, a5, a6, a7, a8, a9, a10, a11, a12⟩ := G9.2.2.1.cells)
    | (go_at_call 34; with_reducible refine (H4 _ _ _ G9).mono ?_; rintro e w10 ⟨rfl, kb, hfin⟩; obtain ⟨a0, a1, a2, a3, a4, a5, a6, a7, a8, a9, a10, a11, a12⟩ := kb.cells))
  go_wp2
  go_ret
  exact ⟨rfl, hfin⟩
end Go.Proofs.Ytajhpnfpjickbaa
