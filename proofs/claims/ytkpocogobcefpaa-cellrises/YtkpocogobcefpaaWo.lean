/- works answers true and turns nothing that was there. Conditions: none. -/
import Derived.Test.YtkpocogobcefpaaCb
namespace Go.Proofs.Ytkpocogobcefpaa
open Go.RowKit
theorem Write_at (p : Nat) (k s n E K Z : Int) (w : World) (h : Cl w p k s) (hs : In s) (hE : wE k s n = E) (hK : wK k s n = K) (hZ : wS k s n = Z) : Calls Try.prog 10 #[.pointer (some ⟨p, 0, none⟩), .int .i64 n] w fun e w' => e = .returned (.int .i64 E) ∧ Cl w' p K Z ∧ Mod (fun i => i = p) w w' := by
  have := Write_any p k s n w h hs
  rwa [hE, hK, hZ] at this
theorem Crash_at (p : Nat) (k s : Int) (b : Bool) (E Z : Int) (w : World) (h : Cl w p k s) (hs : In s) (hE : cE s = E) (hZ : cS s b = Z) : Calls Try.prog 12 #[.pointer (some ⟨p, 0, none⟩), .bool b] w fun e w' => e = .returned (.int .i64 E) ∧ Cl w' p k Z ∧ Mod (fun i => i = p) w w' := by
  have := Crash_any p k s b w h hs
  rwa [hE, hZ] at this
theorem Start_at (p : Nat) (k s E Z : Int) (w : World) (h : Cl w p k s) (hs : In s) (hE : sE s = E) (hZ : sS s = Z) : Calls Try.prog 14 #[.pointer (some ⟨p, 0, none⟩)] w fun e w' => e = .returned (.int .i64 E) ∧ Cl w' p k Z ∧ Mod (fun i => i = p) w w' := by
  have := Start_any p k s w h hs
  rwa [hE, hZ] at this
theorem In1 : In 1 := .inl rfl
theorem In2 : In 2 := .inr (.inl rfl)
theorem In3 : In 3 := .inr (.inr (.inl rfl))
theorem In4 : In 4 := .inr (.inr (.inr rfl))
set_option maxHeartbeats 4000000 in
theorem works_any (w : World) : Calls Try.prog 18 #[] w fun e w' => e = .returned (.bool true) ∧ Mod (fun _ => False) w w' := by
  go_enter Try.func18, Try.ntmps18
  go_wp2_with fail
  refine (New_any _).mono ?_
  rintro e w1 ⟨p, rfl, h, hm, hp⟩
  go_wp2_with fail
  refine (Write_at p 0 1 5 0 5 1 _ h In1 (by decide) (by decide) (by decide)).mono ?_
  rintro e w2 ⟨rfl, h2, hm2⟩
  replace hm := hm.trans hm2 (V := fun _ => False) (fun _ _ h => h) (fun i hi hh => by omega)
  clear h hm2
  have h := h2
  clear h2
  go_wp2_with fail
  refine (Write_at p 5 1 5 9 5 1 _ h In1 (by decide) (by decide) (by decide)).mono ?_
  rintro e w2 ⟨rfl, h2, hm2⟩
  replace hm := hm.trans hm2 (V := fun _ => False) (fun _ _ h => h) (fun i hi hh => by omega)
  clear h hm2
  have h := h2
  clear h2
  go_wp2_with fail
  refine (Write_at p 5 1 9 0 9 1 _ h In1 (by decide) (by decide) (by decide)).mono ?_
  rintro e w2 ⟨rfl, h2, hm2⟩
  replace hm := hm.trans hm2 (V := fun _ => False) (fun _ _ h => h) (fun i hi hh => by omega)
  clear h hm2
  have h := h2
  clear h2
  go_wp2_with fail
  refine (Read_any p 9 1 _ h In1).mono ?_
  rintro e w2 ⟨rfl, rfl⟩
  go_wp2_with fail
  refine (Crash_at p 9 1 false 0 2 _ h In1 (by decide) (by decide)).mono ?_
  rintro e w2 ⟨rfl, h2, hm2⟩
  replace hm := hm.trans hm2 (V := fun _ => False) (fun _ _ h => h) (fun i hi hh => by omega)
  clear h hm2
  have h := h2
  clear h2
  go_wp2_with fail
  refine (Write_at p 9 2 12 270 9 4 _ h In2 (by decide) (by decide) (by decide)).mono ?_
  rintro e w2 ⟨rfl, h2, hm2⟩
  replace hm := hm.trans hm2 (V := fun _ => False) (fun _ _ h => h) (fun i hi hh => by omega)
  clear h hm2
  have h := h2
  clear h2
  go_wp2_with fail
  refine (Down_any p 9 4 _ h In4).mono ?_
  rintro e w2 ⟨rfl, rfl⟩
  go_wp2_with fail
  refine (Read_any p 9 4 _ h In4).mono ?_
  rintro e w2 ⟨rfl, rfl⟩
  go_wp2_with fail
  refine (Start_at p 9 4 0 1 _ h In4 (by decide) (by decide)).mono ?_
  rintro e w2 ⟨rfl, h2, hm2⟩
  replace hm := hm.trans hm2 (V := fun _ => False) (fun _ _ h => h) (fun i hi hh => by omega)
  clear h hm2
  have h := h2
  clear h2
  go_wp2_with fail
  refine (Crash_at p 9 1 true 0 3 _ h In1 (by decide) (by decide)).mono ?_
  rintro e w2 ⟨rfl, h2, hm2⟩
  replace hm := hm.trans hm2 (V := fun _ => False) (fun _ _ h => h) (fun i hi hh => by omega)
  clear h hm2
  have h := h2
  clear h2
  go_wp2_with fail
  refine (Write_at p 9 3 20 270 20 4 _ h In3 (by decide) (by decide) (by decide)).mono ?_
  rintro e w2 ⟨rfl, h2, hm2⟩
  replace hm := hm.trans hm2 (V := fun _ => False) (fun _ _ h => h) (fun i hi hh => by omega)
  clear h hm2
  have h := h2
  clear h2
  go_wp2_with fail
  refine (Read_any p 20 4 _ h In4).mono ?_
  rintro e w2 ⟨rfl, rfl⟩
  go_wp2_with fail
  refine (Start_at p 20 4 0 1 _ h In4 (by decide) (by decide)).mono ?_
  rintro e w2 ⟨rfl, h2, hm2⟩
  replace hm := hm.trans hm2 (V := fun _ => False) (fun _ _ h => h) (fun i hi hh => by omega)
  clear h hm2
  have h := h2
  clear h2
  go_wp2_with fail
  refine (Down_any p 20 1 _ h In1).mono ?_
  rintro e w2 ⟨rfl, rfl⟩
  go_wp2
  go_ret
  exact ⟨rfl, hm⟩
end Go.Proofs.Ytkpocogobcefpaa
