/- Contracts of the comparisons, the program's and the document's. No conditions. -/
import Derived.Test.YtbfgnlpgfjokhaaKb
import Derived.Deep.RegionHeld3
namespace Go.Proofs.Ytbfgnlpgfjokhaa
open Go.RowKit
/-- How ring numbers stand. -/
def rg (q r q' r' : Int) : Int := if q = q' then cm r r' else cm q q'
/-- How keys stand. -/
def ks (s q r n s' q' r' n' : Int) : Int := if s = s' then (if q = q' ∧ r = r' then cm n n' else rg q r q' r') else cm s s'
theorem cm_self (a : Int) : cm a a = 0 := by simp [cm]
theorem cm_zero {a b : Int} : cm a b = 0 ↔ a = b := by
  unfold cm
  constructor
  · intro h
    split at h
    · cases h
    · split at h
      · cases h
      · omega
  · rintro rfl; simp
theorem RRings (q r q' r' : Int) (w : World) : Calls Try.prog 14 #[.agg #[.int .i64 q, .int .i64 r], .agg #[.int .i64 q', .int .i64 r']] w fun e w' => e = .returned (.int .i64 (rg q r q' r')) ∧ Mod (fun _ => False) w w' := by
  have H := less q q'
  have N := less r r'
  by_cases h : q = q'
  · rw [rg, if_pos h]
    subst h
    generalize cm r r' = c at N ⊢
    clear H
    go_enter Try.func14, Try.ntmps14
    go_wp2_with (fail)
    refine (N _).mono ?_
    rintro e w' ⟨rfl, rfl⟩
    go_wp2
    go_ret
    exact ⟨rfl, ((Mod.refl _ _).alloc _).alloc _⟩
  · rw [rg, if_neg h]
    generalize cm q q' = c at H ⊢
    clear N
    go_enter Try.func14, Try.ntmps14
    go_wp2_with (fail)
    refine (H _).mono ?_
    rintro e w' ⟨rfl, rfl⟩
    go_wp2
    go_ret
    exact ⟨rfl, ((Mod.refl _ _).alloc _).alloc _⟩
theorem Or2 (x y : Int) (b : Nat) (w : World) (c0 : w.cell? ⟨b, 0, none⟩ = some (.int .i64 x)) (c1 : w.cell? ⟨b, 1, none⟩ = some (.int .i64 y)) :
    Calls Try.prog 26 #[.slice (some ⟨b, 0, none⟩) 2 2] w fun e w' => e = .returned (.int .i64 (if x = 0 then y else x)) ∧ w' = w := by
  have HE : Hid (∀ k : Nat, (if x = 0 then y else x) = (if x = 0 then y else x)) := fun _ => rfl
  generalize hz : (if x = 0 then y else x) = z
  have HZ : Hid ((if x = 0 then y else x) = z) := hz
  clear hz HE
  go_enter Try.func26, Try.ntmps26
  go_wp2
  go_loopw [8] (fun i wr => ∃ k : Nat, i = .int .i64 k ∧ k ≤ 2 ∧ (1 ≤ k → x = 0) ∧ (2 ≤ k → y = 0) ∧ wr = w) (fun i _ => 2 - (intOf i).toNat)
  case atStart => exact ⟨0, rfl, by omega, by omega, by omega, rfl⟩
  case round =>
    obtain ⟨k, rfl, hk, hx, hy, rfl⟩ := hrel
    rcases (show k = 0 ∨ k = 1 ∨ k = 2 by omega) with rfl | rfl | rfl
    · by_cases h : x = 0
      · clear hx hy
        go_wp2
        go_roundw
        case rel => exact ⟨1, by go_num, by omega, fun _ => h, by omega, trivial⟩
        case measure => simp [intOf]
      · have e : Hid (z = x) := by have := HZ.out; rw [if_neg h] at this; exact this.symm
        clear hx hy HZ
        go_wp2
        go_ret
        exact ⟨by rw [e.out]; rfl, rfl⟩
    · have h := hx (by omega)
      subst h
      by_cases h : y = 0
      · clear hx hy
        go_wp2
        go_roundw
        case rel => exact ⟨2, by go_num, by omega, fun _ => trivial, fun _ => h, trivial⟩
        case measure => simp [intOf]
      · have e : Hid (z = y) := by have := HZ.out; rw [if_pos rfl] at this; exact this.symm
        clear hx hy HZ
        go_wp2
        go_ret
        exact ⟨by rw [e.out]; rfl, rfl⟩
    · have h := hx (by omega)
      have h' := hy (by omega)
      subst h h'
      have e : Hid (z = 0) := by have := HZ.out; rw [if_pos rfl] at this; exact this.symm
      clear hx hy HZ
      go_wp2
      go_ret
      exact ⟨by rw [e.out]; rfl, rfl⟩
theorem rg_or (q r q' r' : Int) : (if cm q q' = 0 then cm r r' else cm q q') = rg q r q' r' := by
  unfold rg
  by_cases h : q = q'
  · rw [if_pos (cm_zero.2 h), if_pos h]
  · rw [if_neg (fun e => h (cm_zero.1 e)), if_neg h]
theorem Rings (q r q' r' : Int) (w : World) : Calls Try.prog 13 #[.agg #[.int .i64 q, .int .i64 r], .agg #[.int .i64 q', .int .i64 r']] w fun e w' => e = .returned (.int .i64 (rg q r q' r')) ∧ Mod (fun _ => False) w w' := by
  have H := Compare
  rw [← rg_or]
  generalize cm = c at H ⊢
  have O := Or2
  generalize hz : (if c q q' = 0 then c r r' else c q q') = z
  have HZ : Hid ((if c q q' = 0 then c r r' else c q q') = z) := hz
  clear hz
  go_enter Try.func13, Try.ntmps13
  go_wp2_with fail
  go_region_held3 (fun u => u.cell? ⟨w.heap.size, 0, none⟩ = some (.int .i64 q) ∧ u.cell? ⟨w.heap.size, 1, none⟩ = some (.int .i64 r) ∧ u.cell? ⟨w.heap.size + 1, 0, none⟩ = some (.int .i64 q') ∧ u.cell? ⟨w.heap.size + 1, 1, none⟩ = some (.int .i64 r')) (go_keep)
    (first | (go_at_call 27; refine (H _ _ _).mono ?_; rintro e w' ⟨rfl, rfl⟩) | (go_at_call 26; refine (O (c q q') (c r r') (w.heap.size + 2) _ (by simp [go_sem]) (by simp [go_sem])).mono ?_; rw [HZ.out]; rintro e w' ⟨rfl, rfl⟩))
  go_wp2
  go_ret
  exact ⟨rfl, Mod.drewN ((((Mod.refl _ _).alloc _).alloc _).alloc _) 1⟩
theorem Mod.and {a b c : World} (h : Mod (fun _ => False) a b) (k : Mod (fun _ => False) b c) : Mod (fun _ => False) a c := h.trans k (fun _ _ h => h) (fun _ _ h => h)
theorem Keys (s q r n s' q' r' n' : Int) (w : World) : Calls Try.prog 15 #[.agg #[.int .i64 s, .int .i64 q, .int .i64 r, .int .i64 n], .agg #[.int .i64 s', .int .i64 q', .int .i64 r', .int .i64 n']] w fun e w' => e = .returned (.int .i64 (ks s q r n s' q' r' n')) ∧ Mod (fun _ => False) w w' := by
  have H := Compare
  have R := Rings
  by_cases h : s = s'
  · by_cases h2 : q = q' ∧ r = r'
    · rw [ks, if_pos h, if_pos h2]
      obtain ⟨rfl, rfl⟩ := h2
      subst h
      generalize cm = c at H ⊢
      go_enter Try.func15, Try.ntmps15
      go_wp2_with (fail)
      refine (H _ _ _).mono ?_
      rintro e w' ⟨rfl, rfl⟩
      go_wp2
      go_ret
      exact ⟨rfl, ((Mod.refl _ _).alloc _).alloc _⟩
    · rw [ks, if_pos h, if_neg h2]
      subst h
      generalize rg = c at R ⊢
      rcases (show ¬ q = q' ∨ (q = q' ∧ ¬ r = r') by omega) with h3 | ⟨rfl, h3⟩
      all_goals
        clear h2 H
        go_enter Try.func15, Try.ntmps15
        go_wp2_with (fail)
        refine (R _ _ _ _ _).mono ?_
        rintro e w' ⟨rfl, hm⟩
        go_wp2
        go_ret
        exact ⟨rfl, (((Mod.refl _ _).alloc _).alloc _).and hm⟩
  · rw [ks, if_neg h]
    generalize cm = c at H ⊢
    go_enter Try.func15, Try.ntmps15
    go_wp2_with (fail)
    refine (H _ _ _).mono ?_
    rintro e w' ⟨rfl, rfl⟩
    go_wp2
    go_ret
    exact ⟨rfl, ((Mod.refl _ _).alloc _).alloc _⟩
theorem rg_zero {q r q' r' : Int} : rg q r q' r' = 0 ↔ q = q' ∧ r = r' := by
  unfold rg
  constructor
  · intro h
    split at h
    · rename_i h1; exact ⟨h1, cm_zero.1 h⟩
    · rename_i h1; exact absurd (cm_zero.1 h) h1
  · rintro ⟨rfl, rfl⟩; rw [if_pos rfl, cm_self]
theorem RKeys (s q r n s' q' r' n' : Int) (w : World) : Calls Try.prog 16 #[.agg #[.int .i64 s, .int .i64 q, .int .i64 r, .int .i64 n], .agg #[.int .i64 s', .int .i64 q', .int .i64 r', .int .i64 n']] w fun e w' => e = .returned (.int .i64 (ks s q r n s' q' r' n')) ∧ Mod (fun _ => False) w w' := by
  have H := less
  have R := RRings q r q' r'
  by_cases h : s = s'
  · by_cases h2 : q = q' ∧ r = r'
    · rw [ks, if_pos h, if_pos h2]
      rw [rg_zero.2 h2] at R
      subst h
      generalize cm = c at H ⊢
      clear h2
      go_enter Try.func16, Try.ntmps16
      go_wp2_with (fail)
      refine (R _).mono ?_
      rintro e w' ⟨rfl, hm⟩
      have c0 : w'.cell? ⟨w.heap.size, 3, none⟩ = some (.int .i64 n) := hm.cell (by simp [go_sem]) (fun h => h)
      have c1 : w'.cell? ⟨w.heap.size + 1, 3, none⟩ = some (.int .i64 n') := hm.cell (by simp [go_sem]) (fun h => h)
      clear R
      go_wp2_with (fail)
      refine (H _ _ _).mono ?_
      rintro e w' ⟨rfl, rfl⟩
      go_wp2
      go_ret
      exact ⟨rfl, (((Mod.refl _ _).alloc _).alloc _).and hm⟩
    · rw [ks, if_pos h, if_neg h2]
      have hz : ¬ rg q r q' r' = 0 := fun e => h2 (rg_zero.1 e)
      subst h
      generalize rg q r q' r' = z at R hz ⊢
      clear h2 H
      go_enter Try.func16, Try.ntmps16
      go_wp2_with (fail)
      refine (R _).mono ?_
      rintro e w' ⟨rfl, hm⟩
      have c0 : w'.cell? ⟨w.heap.size, 1, none⟩ = some (.int .i64 q) := hm.cell (by simp [go_sem]) (fun h => h)
      have c1 : w'.cell? ⟨w.heap.size, 2, none⟩ = some (.int .i64 r) := hm.cell (by simp [go_sem]) (fun h => h)
      have c2 : w'.cell? ⟨w.heap.size + 1, 1, none⟩ = some (.int .i64 q') := hm.cell (by simp [go_sem]) (fun h => h)
      have c3 : w'.cell? ⟨w.heap.size + 1, 2, none⟩ = some (.int .i64 r') := hm.cell (by simp [go_sem]) (fun h => h)
      go_wp2_with (fail)
      refine (R _).mono ?_
      rintro e w' ⟨rfl, hm2⟩
      go_wp2
      go_ret
      exact ⟨rfl, ((((Mod.refl _ _).alloc _).alloc _).and hm).and hm2⟩
  · rw [ks, if_neg h]
    generalize cm = c at H ⊢
    clear R
    go_enter Try.func16, Try.ntmps16
    go_wp2_with (fail)
    refine (H _ _ _).mono ?_
    rintro e w' ⟨rfl, rfl⟩
    go_wp2
    go_ret
    exact ⟨rfl, ((Mod.refl _ _).alloc _).alloc _⟩
end Go.Proofs.Ytbfgnlpgfjokhaa
