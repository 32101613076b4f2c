/- Contract of the statements' same, of the parts of one payload. Conditions: sizes that a slice of bytes has. -/
import Derived.Test.YtifogbhlphofjaaXh
import Derived.Test.YtifogbhlphofjaaCx
namespace Go.Proofs.Ytifogbhlphofjaa
open Go.RowKit Go.Maps
/-- Parts that are read. -/
structure Rp (w : World) (G : Nat) (m : Ms) (n : Nat) (pl : List Int) (V : Nat → Value) : Prop where
  cells : ∀ j, j < n → w.rangeAt G (j * 13) (mcl (prt m n pl j) (V j))
  sl : ∀ j, j < n → Sl w (V j) (chunk pl j)
theorem Rp.mod {S : Nat → Prop} {w w' : World} {G : Nat} {m : Ms} {n : Nat} {pl : List Int} {V : Nat → Value} (h : Rp w G m n pl V) (hm : Mod S w w') (hG : ¬ S G) (hV : ∀ j, j < n → ∀ b, (V j).ownBlock = some b → ¬ S b) : Rp w' G m n pl V :=
  ⟨fun j hj t c hc => hm.cell (h.cells j hj t c hc) hG, fun j hj => (h.sl j hj).mod hm (hV j hj)⟩
theorem same_nil (w : World) : Calls Try.prog 12 #[.slice none 0 0, .slice none 0 0] w fun e w' => e = .returned (.bool true) ∧ Mod (fun _ => False) w w' := by
  go_enter Try.func12, Try.ntmps12
  go_wp2
  go_loopw [5] (fun ci wr => ci = .int .i64 0 ∧ wr = w) (fun _ _ => 0)
  case atStart => exact ⟨rfl, rfl⟩
  case round =>
    obtain ⟨rfl, rfl⟩ := hrel
    go_wp2
    go_ret
    exact ⟨rfl, Mod.refl _ _⟩
set_option maxRecDepth 100000 in
set_option maxHeartbeats 4000000 in
theorem same_parts (o lf i g : Int) (s : Bool) (n : Nat) (pl : List Int) (G H ca cb : Nat) (V V' : Nat → Value) (w : World) (n5 : n ≤ 5) (hA : Rp w G ⟨1, o, lf, i, 0, 0, g, s, 0, 0, 0, 0, []⟩ n pl V) (hB : Rp w H ⟨1, o, lf, i, 0, 0, g, s, 0, 0, 0, 0, []⟩ n pl V') :
    Calls Try.prog 12 #[.slice (some ⟨G, 0, none⟩) n ca, .slice (some ⟨H, 0, none⟩) n cb] w fun e w' => e = .returned (.bool true) ∧ Mod (fun _ => False) w w' := by
  have hnn : ((n : Int) != (n : Int)) = false := by simp
  go_enter Try.func12, Try.ntmps12
  go_wp2_with (fail)
  go_loopw [5] (fun ci wr => ∃ j : Nat, ci = .int .i64 (j : Int) ∧ j ≤ n ∧ Mod (fun _ => False) w wr) (fun ci _ => n - (intOf ci).toNat)
  case atStart => exact ⟨0, rfl, Nat.zero_le _, Mod.refl _ _⟩
  case round =>
    obtain ⟨j, rfl, hj, hMr⟩ := hrel
    by_cases hjn : j < n
    · have hjn' : (j : Int) < (n : Int) := by go_light; omega
      have hA' := (hA.mod hMr (fun h => h) (fun _ _ _ _ h => h))
      have hB' := (hB.mod hMr (fun h => h) (fun _ _ _ _ h => h))
      have hc := hA'.cells j hjn
      have hd := hB'.cells j hjn
      have hs := hA'.sl j hjn
      have hs' := hB'.sl j hjn
      obtain ⟨c, hcc⟩ : ∃ c, c = chunk pl j := ⟨_, rfl⟩
      rw [← hcc] at hs hs'
      obtain ⟨aA, kA, eA, _⟩ := hs.form
      obtain ⟨aB, kB, eB, _⟩ := hs'.form
      rw [eA] at hc hs
      rw [eB] at hd hs'
      have HS : ∀ W, Mod (fun _ => False) wr W → _ := fun W (hm : Mod (fun _ => False) wr W) => Same_eq 1 o lf i (j : Int) (n : Int) g s 0 0 0 0 aA aB kA kB c W (hs.mod hm (fun _ _ h => h)) (hs'.mod hm (fun _ _ h => h))
      have p0 : wr.cell? ⟨G, j * 13, none⟩ = some (.int .i64 1) := by
        have h := hc 0 _ (by rfl)
        first | exact h | (rw [hcc]; exact h)
      have p1 : wr.cell? ⟨G, j * 13 + 1, none⟩ = some (.int .i64 o) := by
        have h := hc 1 _ (by rfl)
        first | exact h | (rw [hcc]; exact h)
      have p2 : wr.cell? ⟨G, j * 13 + 2, none⟩ = some (.int .i64 lf) := by
        have h := hc 2 _ (by rfl)
        first | exact h | (rw [hcc]; exact h)
      have p3 : wr.cell? ⟨G, j * 13 + 3, none⟩ = some (.int .i64 i) := by
        have h := hc 3 _ (by rfl)
        first | exact h | (rw [hcc]; exact h)
      have p4 : wr.cell? ⟨G, j * 13 + 4, none⟩ = some (.int .i64 (j : Int)) := by
        have h := hc 4 _ (by rfl)
        first | exact h | (rw [hcc]; exact h)
      have p5 : wr.cell? ⟨G, j * 13 + 5, none⟩ = some (.int .i64 (n : Int)) := by
        have h := hc 5 _ (by rfl)
        first | exact h | (rw [hcc]; exact h)
      have p6 : wr.cell? ⟨G, j * 13 + 6, none⟩ = some (.int .i64 g) := by
        have h := hc 6 _ (by rfl)
        first | exact h | (rw [hcc]; exact h)
      have p7 : wr.cell? ⟨G, j * 13 + 7, none⟩ = some (.bool s) := by
        have h := hc 7 _ (by rfl)
        first | exact h | (rw [hcc]; exact h)
      have p8 : wr.cell? ⟨G, j * 13 + 8, none⟩ = some (.int .i64 0) := by
        have h := hc 8 _ (by rfl)
        first | exact h | (rw [hcc]; exact h)
      have p9 : wr.cell? ⟨G, j * 13 + 9, none⟩ = some (.int .i64 0) := by
        have h := hc 9 _ (by rfl)
        first | exact h | (rw [hcc]; exact h)
      have p10 : wr.cell? ⟨G, j * 13 + 10, none⟩ = some (.int .i64 0) := by
        have h := hc 10 _ (by rfl)
        first | exact h | (rw [hcc]; exact h)
      have p11 : wr.cell? ⟨G, j * 13 + 11, none⟩ = some (.int .i64 0) := by
        have h := hc 11 _ (by rfl)
        first | exact h | (rw [hcc]; exact h)
      have p12 : wr.cell? ⟨G, j * 13 + 12, none⟩ = some (.slice aA c.length kA) := by
        have h := hc 12 _ (by rfl)
        first | exact h | (rw [hcc]; exact h)
      have r0 : wr.cell? ⟨H, j * 13, none⟩ = some (.int .i64 1) := by
        have h := hd 0 _ (by rfl)
        first | exact h | (rw [hcc]; exact h)
      have r1 : wr.cell? ⟨H, j * 13 + 1, none⟩ = some (.int .i64 o) := by
        have h := hd 1 _ (by rfl)
        first | exact h | (rw [hcc]; exact h)
      have r2 : wr.cell? ⟨H, j * 13 + 2, none⟩ = some (.int .i64 lf) := by
        have h := hd 2 _ (by rfl)
        first | exact h | (rw [hcc]; exact h)
      have r3 : wr.cell? ⟨H, j * 13 + 3, none⟩ = some (.int .i64 i) := by
        have h := hd 3 _ (by rfl)
        first | exact h | (rw [hcc]; exact h)
      have r4 : wr.cell? ⟨H, j * 13 + 4, none⟩ = some (.int .i64 (j : Int)) := by
        have h := hd 4 _ (by rfl)
        first | exact h | (rw [hcc]; exact h)
      have r5 : wr.cell? ⟨H, j * 13 + 5, none⟩ = some (.int .i64 (n : Int)) := by
        have h := hd 5 _ (by rfl)
        first | exact h | (rw [hcc]; exact h)
      have r6 : wr.cell? ⟨H, j * 13 + 6, none⟩ = some (.int .i64 g) := by
        have h := hd 6 _ (by rfl)
        first | exact h | (rw [hcc]; exact h)
      have r7 : wr.cell? ⟨H, j * 13 + 7, none⟩ = some (.bool s) := by
        have h := hd 7 _ (by rfl)
        first | exact h | (rw [hcc]; exact h)
      have r8 : wr.cell? ⟨H, j * 13 + 8, none⟩ = some (.int .i64 0) := by
        have h := hd 8 _ (by rfl)
        first | exact h | (rw [hcc]; exact h)
      have r9 : wr.cell? ⟨H, j * 13 + 9, none⟩ = some (.int .i64 0) := by
        have h := hd 9 _ (by rfl)
        first | exact h | (rw [hcc]; exact h)
      have r10 : wr.cell? ⟨H, j * 13 + 10, none⟩ = some (.int .i64 0) := by
        have h := hd 10 _ (by rfl)
        first | exact h | (rw [hcc]; exact h)
      have r11 : wr.cell? ⟨H, j * 13 + 11, none⟩ = some (.int .i64 0) := by
        have h := hd 11 _ (by rfl)
        first | exact h | (rw [hcc]; exact h)
      have r12 : wr.cell? ⟨H, j * 13 + 12, none⟩ = some (.slice aB c.length kB) := by
        have h := hd 12 _ (by rfl)
        first | exact h | (rw [hcc]; exact h)
      have HCC : Hid (c = chunk pl j) := hcc
      have HS1 := HS wr.drew ((Mod.refl (fun _ => False) wr).drew)
      clear hcc hA' hB' hc hd hs hs' HS eA eB
      go_wp2_with (fail)
      go_region_held3 (fun y => y.cell? ⟨G, j * 13, none⟩ = some (.int .i64 1) ∧ y.cell? ⟨G, j * 13 + 1, none⟩ = some (.int .i64 o) ∧ y.cell? ⟨G, j * 13 + 2, none⟩ = some (.int .i64 lf) ∧ y.cell? ⟨G, j * 13 + 3, none⟩ = some (.int .i64 i) ∧ y.cell? ⟨G, j * 13 + 4, none⟩ = some (.int .i64 (j : Int)) ∧ y.cell? ⟨G, j * 13 + 5, none⟩ = some (.int .i64 (n : Int)) ∧ y.cell? ⟨G, j * 13 + 6, none⟩ = some (.int .i64 g) ∧ y.cell? ⟨G, j * 13 + 7, none⟩ = some (.bool s) ∧ y.cell? ⟨G, j * 13 + 8, none⟩ = some (.int .i64 0) ∧ y.cell? ⟨G, j * 13 + 9, none⟩ = some (.int .i64 0) ∧ y.cell? ⟨G, j * 13 + 10, none⟩ = some (.int .i64 0) ∧ y.cell? ⟨G, j * 13 + 11, none⟩ = some (.int .i64 0) ∧ y.cell? ⟨G, j * 13 + 12, none⟩ = some (.slice aA c.length kA) ∧ y.cell? ⟨H, j * 13, none⟩ = some (.int .i64 1) ∧ y.cell? ⟨H, j * 13 + 1, none⟩ = some (.int .i64 o) ∧ y.cell? ⟨H, j * 13 + 2, none⟩ = some (.int .i64 lf) ∧ y.cell? ⟨H, j * 13 + 3, none⟩ = some (.int .i64 i) ∧ y.cell? ⟨H, j * 13 + 4, none⟩ = some (.int .i64 (j : Int)) ∧ y.cell? ⟨H, j * 13 + 5, none⟩ = some (.int .i64 (n : Int)) ∧ y.cell? ⟨H, j * 13 + 6, none⟩ = some (.int .i64 g) ∧ y.cell? ⟨H, j * 13 + 7, none⟩ = some (.bool s) ∧ y.cell? ⟨H, j * 13 + 8, none⟩ = some (.int .i64 0) ∧ y.cell? ⟨H, j * 13 + 9, none⟩ = some (.int .i64 0) ∧ y.cell? ⟨H, j * 13 + 10, none⟩ = some (.int .i64 0) ∧ y.cell? ⟨H, j * 13 + 11, none⟩ = some (.int .i64 0) ∧ y.cell? ⟨H, j * 13 + 12, none⟩ = some (.slice aB c.length kB)) (first | with_reducible exact ⟨p0, p1, p2, p3, p4, p5, p6, p7, p8, p9, p10, p11, p12, r0, r1, r2, r3, r4, r5, r6, r7, r8, r9, r10, r11, r12⟩ | go_keep) ((go_at_call 13; refine HS1.mono ?_; rintro e w2 ⟨rfl, hm2⟩; replace p0 : w2.cell? ⟨G, j * 13, none⟩ = some (.int .i64 1) := hm2.cell p0 (fun h => h); replace p1 : w2.cell? ⟨G, j * 13 + 1, none⟩ = some (.int .i64 o) := hm2.cell p1 (fun h => h); replace p2 : w2.cell? ⟨G, j * 13 + 2, none⟩ = some (.int .i64 lf) := hm2.cell p2 (fun h => h); replace p3 : w2.cell? ⟨G, j * 13 + 3, none⟩ = some (.int .i64 i) := hm2.cell p3 (fun h => h); replace p4 : w2.cell? ⟨G, j * 13 + 4, none⟩ = some (.int .i64 (j : Int)) := hm2.cell p4 (fun h => h); replace p5 : w2.cell? ⟨G, j * 13 + 5, none⟩ = some (.int .i64 (n : Int)) := hm2.cell p5 (fun h => h); replace p6 : w2.cell? ⟨G, j * 13 + 6, none⟩ = some (.int .i64 g) := hm2.cell p6 (fun h => h); replace p7 : w2.cell? ⟨G, j * 13 + 7, none⟩ = some (.bool s) := hm2.cell p7 (fun h => h); replace p8 : w2.cell? ⟨G, j * 13 + 8, none⟩ = some (.int .i64 0) := hm2.cell p8 (fun h => h); replace p9 : w2.cell? ⟨G, j * 13 + 9, none⟩ = some (.int .i64 0) := hm2.cell p9 (fun h => h); replace p10 : w2.cell? ⟨G, j * 13 + 10, none⟩ = some (.int .i64 0) := hm2.cell p10 (fun h => h); replace p11 : w2.cell? ⟨G, j * 13 + 11, none⟩ = some (.int .i64 0) := hm2.cell p11 (fun h => h); replace p12 : w2.cell? ⟨G, j * 13 + 12, none⟩ = some (.slice aA c.length kA) := hm2.cell p12 (fun h => h); replace r0 : w2.cell? ⟨H, j * 13, none⟩ = some (.int .i64 1) := hm2.cell r0 (fun h => h); replace r1 : w2.cell? ⟨H, j * 13 + 1, none⟩ = some (.int .i64 o) := hm2.cell r1 (fun h => h); replace r2 : w2.cell? ⟨H, j * 13 + 2, none⟩ = some (.int .i64 lf) := hm2.cell r2 (fun h => h); replace r3 : w2.cell? ⟨H, j * 13 + 3, none⟩ = some (.int .i64 i) := hm2.cell r3 (fun h => h); replace r4 : w2.cell? ⟨H, j * 13 + 4, none⟩ = some (.int .i64 (j : Int)) := hm2.cell r4 (fun h => h); replace r5 : w2.cell? ⟨H, j * 13 + 5, none⟩ = some (.int .i64 (n : Int)) := hm2.cell r5 (fun h => h); replace r6 : w2.cell? ⟨H, j * 13 + 6, none⟩ = some (.int .i64 g) := hm2.cell r6 (fun h => h); replace r7 : w2.cell? ⟨H, j * 13 + 7, none⟩ = some (.bool s) := hm2.cell r7 (fun h => h); replace r8 : w2.cell? ⟨H, j * 13 + 8, none⟩ = some (.int .i64 0) := hm2.cell r8 (fun h => h); replace r9 : w2.cell? ⟨H, j * 13 + 9, none⟩ = some (.int .i64 0) := hm2.cell r9 (fun h => h); replace r10 : w2.cell? ⟨H, j * 13 + 10, none⟩ = some (.int .i64 0) := hm2.cell r10 (fun h => h); replace r11 : w2.cell? ⟨H, j * 13 + 11, none⟩ = some (.int .i64 0) := hm2.cell r11 (fun h => h); replace r12 : w2.cell? ⟨H, j * 13 + 12, none⟩ = some (.slice aB c.length kB) := hm2.cell r12 (fun h => h)))
      clear p0 p1 p2 p3 p4 p5 p6 p7 p8 p9 p10 p11 p12 r0 r1 r2 r3 r4 r5 r6 r7 r8 r9 r10 r11 r12
      go_wp2_with (fail)
      go_roundw
      case rel => exact ⟨j + 1, by go_num, hjn, (hMr.drew).trans hm2 (fun _ _ h => h) (fun _ _ h => h)⟩
      case measure => simp [intOf]; go_light; omega
    · have ej : j = n := by go_light; omega
      subst ej
      go_wp2_with (fail)
      go_ret
      exact ⟨rfl, hMr⟩
end Go.Proofs.Ytifogbhlphofjaa
