/- The law's own helper 'works' answers true from any start and turns nothing that was there; and the readers' contracts at known answers. No conditions. -/
import Derived.Test.YtfinaabhmdnjfaaWd
namespace Go.Proofs.Ytfinaabhmdnjfaa
open Go.RowKit
theorem Get_at {p : Nat} {v : Value} {l : List Int} {w : World} (h : Rd w p v l) (x z e : Int) (m : List Int) (hN : num 0 0 l = (x, z, e)) (hm : l.drop z.toNat = m) :
    Calls Try.prog 24 #[.pointer (some ⟨p, 0, none⟩)] w fun e' w' => e' = .returned (.tuple #[.int .i64 x, .int .i64 e]) ∧
      ∃ v', Rd w' p v' m ∧ Mod (fun i => i = p) w w' ∧ (∀ g, v'.ownBlock = some g → v.ownBlock = some g) := by
  have c := Get_any p v l w h
  rw [hN] at c
  rwa [hm] at c
theorem Fixed_at {p : Nat} {v : Value} {l : List Int} {w : World} (h : Rd w p v l) (size : Int) (x : Nat) (m : List Int) (hE : fixE size l = 0) (hx : fx (l.take size.toNat) = x) (hm : l.drop size.toNat = m) :
    Calls Try.prog 26 #[.pointer (some ⟨p, 0, none⟩), .int .i64 size] w fun e w' => e = .returned (.tuple #[.int .i64 x, .int .i64 0]) ∧
       ∃ v', Rd w' p v' m ∧ Mod (fun i => i = p) w w' ∧ (∀ g, v'.ownBlock = some g → v.ownBlock = some g) := by
  have c := Fixed_ok p v l size w h hE
  rwa [hx, hm] at c
theorem Octets_at {p : Nat} {v : Value} {l : List Int} {w : World} (h : Rd w p v l) (most : Int) (hb : l.length ≤ 140737488355328) (hE : octE most l = 0) (x z : Nat) (o m : List Int) (hN : num 0 0 l = ((x : Int), (z : Int), 0)) (ho : (l.drop z).take x = o) (hm : l.drop (z + x) = m) :
    Calls Try.prog 28 #[.pointer (some ⟨p, 0, none⟩), .int .i64 most] w fun e w' => ∃ v1 v2, e = .returned (.tuple #[v1, .int .i64 0]) ∧
      Own w' v1 o ∧ Rd w' p v2 m ∧ Mod (fun i => i = p) w w' ∧ (∀ g, v1.ownBlock = some g → w.heap.size ≤ g) ∧ (∀ g, v2.ownBlock = some g → v.ownBlock = some g) := by
  have c := Octets_ok p v l most w h hb hE
  rw [hN] at c
  simp only [Int.toNat_natCast] at c
  rwa [ho, hm] at c
theorem EqBytes_at {u v : Value} {w : World} {a b : List Int} (r : Bool) (hu : Sl w u a) (hv : Sl w v b) (hr : decide (a = b) = r) :
    Calls Try.prog 19 #[u, v] w fun e w' => e = .returned (.bool r) ∧ Mod (fun _ => False) w w' := by
  have c := EqBytes_any u v a b w hu hv
  rwa [hr] at c
theorem enc300 : enc (Int.toNat 300) = [172, 2] := by decide
theorem enc0 : enc (Int.toNat 0) = [0] := by decide
theorem Mod.none {S : Nat → Prop} {a b : World} (h : Mod (fun _ => False) a b) : Mod S a b := h.mono fun _ _ h => h.elim
set_option maxRecDepth 100000 in
set_option maxHeartbeats 1000000 in
theorem works_any (w : World) : Calls Try.prog 21 #[] w fun e w' => e = .returned (.bool true) ∧ Mod (fun _ => False) w w' := by
  have hm0 := (Mod.refl (fun _ => False) w).alloc (.cells (U [172, 2, 0, 1, 2, 1, 7]).toArray 5)
  go_enter Try.func21, Try.ntmps21
  go_wp2_with fail
  refine (New_any _ [172, 2, 0, 1, 2, 1, 7] _ (Sl.lit w [172, 2, 0, 1, 2, 1, 7] (by simp [maxLen]) (by decide)) (by decide)).mono ?_
  rintro e w1 ⟨p, v1, rfl, hr1, hm1, hp, hp', hv1⟩
  have hm : Mod (fun _ => False) w w1 := hm0.trans hm1 (fun _ _ h => h) (fun _ _ h => h)
  have hpw : w.heap.size ≤ p := by have := hm0.size; omega
  clear hm0 hm1 hp
  go_wp2_with fail
  refine (Get_at hr1 300 2 0 [0, 1, 2, 1, 7] (by decide) (by decide)).mono ?_
  rintro e w2 ⟨rfl, v2, hr2, hm2, hv2⟩
  replace hm : Mod (fun _ => False) w w2 := hm.trans hm2 (fun _ _ h => h) (fun _ _ h => by omega)
  clear hr1 hm2
  go_wp2_with fail
  refine (Fixed_at hr2 3 258 [1, 7] (by decide) (by decide) (by decide)).mono ?_
  rintro e w3 ⟨rfl, v3, hr3, hm3, hv3⟩
  replace hm : Mod (fun _ => False) w w3 := hm.trans hm3 (fun _ _ h => h) (fun _ _ h => by omega)
  clear hr2 hm3
  go_wp2_with fail
  refine (Octets_at hr3 1 (by decide) (by decide) 1 1 [7] [] (by decide) (by decide) (by decide)).mono ?_
  rintro e w4 ⟨v4, v5, rfl, ho4, hr4, hm4, hv4, hv5⟩
  replace hm : Mod (fun _ => False) w w4 := hm.trans hm4 (fun _ _ h => h) (fun _ _ h => by omega)
  clear hr3 hm4
  go_wp2_with fail
  have ha := (Mod.refl (fun _ => False) w4).alloc (.cells (U [7]).toArray 5)
  refine (EqBytes_at (a := [7]) (b := [7]) true ((ho4.sl (by decide)).mod ha (fun _ _ h => h)) (Sl.lit w4 [7] (by simp [maxLen]) (by decide)) (by decide)).mono ?_
  rintro e w5 ⟨rfl, hm5⟩
  replace hm : Mod (fun _ => False) w w5 := (hm.trans ha (V := fun _ => False) (fun _ _ h => h) (fun _ _ h => h)).trans hm5 (fun _ _ h => h) (fun _ _ h => h)
  have hr5 : Rd w5 p v5 [] := (hr4.mod ha (fun h => h) (fun _ _ h => h)).mod hm5 (fun h => h) (fun _ _ h => h)
  clear ha hm5 ho4 hr4
  go_wp2_with fail
  refine (Left_any _ _ _ _ hr5).mono ?_
  rintro e w' ⟨rfl, rfl⟩
  clear hr5
  go_wp2_with fail
  refine (lput_any 300 _ (by decide) (by decide)).mono ?_
  rintro e w6 ⟨v6, rfl, ho6, hm6, _⟩
  rw [enc300] at ho6
  replace hm : Mod (fun _ => False) w w6 := hm.trans hm6 (fun _ _ h => h) (fun _ _ h => h)
  clear hm6
  go_wp2_with fail
  have ha := (Mod.refl (fun _ => False) w6).alloc (.cells (U [172, 2]).toArray 5)
  refine (EqBytes_at (a := [172, 2]) (b := [172, 2]) true ((ho6.sl (by decide)).mod ha (fun _ _ h => h)) (Sl.lit w6 [172, 2] (by simp [maxLen]) (by decide)) (by decide)).mono ?_
  rintro e w7 ⟨rfl, hm7⟩
  replace hm : Mod (fun _ => False) w w7 := (hm.trans ha (V := fun _ => False) (fun _ _ h => h) (fun _ _ h => h)).trans hm7 (fun _ _ h => h) (fun _ _ h => h)
  clear ha hm7 ho6
  go_wp2_with fail
  refine (lput_any 0 _ (by decide) (by decide)).mono ?_
  rintro e w8 ⟨v8, rfl, ho8, hm8, _⟩
  rw [enc0] at ho8
  replace hm : Mod (fun _ => False) w w8 := hm.trans hm8 (fun _ _ h => h) (fun _ _ h => h)
  clear hm8
  go_wp2_with fail
  have ha := (Mod.refl (fun _ => False) w8).alloc (.cells (U [0]).toArray 5)
  refine (EqBytes_at (a := [0]) (b := [0]) true ((ho8.sl (by decide)).mod ha (fun _ _ h => h)) (Sl.lit w8 [0] (by simp [maxLen]) (by decide)) (by decide)).mono ?_
  rintro e w9 ⟨rfl, hm9⟩
  replace hm : Mod (fun _ => False) w w9 := (hm.trans ha (V := fun _ => False) (fun _ _ h => h) (fun _ _ h => h)).trans hm9 (fun _ _ h => h) (fun _ _ h => h)
  clear ha hm9 ho8
  go_wp2
  go_ret
  exact ⟨rfl, hm⟩
end Go.Proofs.Ytfinaabhmdnjfaa
