/- Contract of packet's receiver. Conditions: there is a member, and a hop. -/
import Derived.Test.YtajhpnfpjickbaaK28
namespace Go.Proofs.Ytajhpnfpjickbaa
open Go.RowKit
set_option maxHeartbeats 1000000 in
theorem receiver_any (rs rr mm hp : Int) (cao : Option Addr) (ccap : Nat) (ce : List Ey) (w : World) (hpos : 0 < (Cr.ls (Cr.lo mm)).length) (hh : 1 ≤ hp) (hhi : hp ≤ 9223372036854775807) :
    Calls Try.prog 116 #[.agg #[.int .i64 rs, .int .i64 rr, .int .i64 mm, .int .i64 hp, .slice cao ce.length ccap]] w fun e w' => e = .returned (.int .i64 (rcv ⟨rs, rr, mm, hp, ce⟩)) ∧ Mod (fun _ => False) w w' := by
  have hM := (Mod.refl (fun _ => False) w).alloc (.cells #[.int .i64 rs, .int .i64 rr, .int .i64 mm, .int .i64 hp, .slice cao ce.length ccap] 72)
  have hBk := Bk.new w #[.int .i64 rs, .int .i64 rr, .int .i64 mm, .int .i64 hp, .slice cao ce.length ccap] 72
  have HL := Cr.List12 mm
  have hl8 := cn_le mm
  rw [← lo_cn] at hl8
  have hr : rcv ⟨rs, rr, mm, hp, ce⟩ = (Cr.ls (Cr.lo mm)).getD (hp.toNat % (Cr.ls (Cr.lo mm)).length) 0 := rfl
  rw [hr]
  clear hr
  generalize Cr.ls (Cr.lo mm) = L at HL hl8 hpos ⊢
  have ht : hp.tmod (L.length : Int) = ((hp.toNat % L.length : Nat) : Int) := by
    rw [Int.tmod_eq_emod_of_nonneg (by omega)]
    obtain ⟨n, rfl⟩ := Int.eq_ofNat_of_zero_le (show 0 ≤ hp by omega)
    simp
  have hlt : hp.toNat % L.length < L.length := Nat.mod_lt _ hpos
  generalize hp.toNat % L.length = q at ht hlt ⊢
  have hqi : (q : Int) < L.length := by omega
  have hq0 : (0 : Int) ≤ q := by omega
  have hl0 : ¬ (L.length : Int) = 0 := by omega
  obtain ⟨x, hx⟩ : ∃ x, L.getD q 0 = x := ⟨_, rfl⟩
  rw [hx]
  have HX : Hid (L.getD q 0 = x) := hx
  clear hx
  go_enter Try.func116, Try.ntmps116
  go_wp2_with (fail)
  refine (HL _).mono ?_
  rintro e w1 ⟨v, rfl, ho, hm1, _⟩
  obtain ⟨ao, cap, rfl, h1, h2, h3, h4⟩ := ho.sl
  obtain ⟨b, off, rfl, hc⟩ := h4 (List.length_pos_iff.1 hpos)
  have hcq := hc q hlt
  have a3 := (hBk.mod hm1 (fun h => h)).cellv (j := 3) (v := .int .i64 hp) rfl
  rw [HX.out] at hcq
  clear hc h4 hBk HL
  go_wp2
  go_ret
  exact ⟨rfl, hM.trans hm1 (V := fun _ => False) (fun _ _ h => h) (fun _ _ h => h)⟩
end Go.Proofs.Ytajhpnfpjickbaa
