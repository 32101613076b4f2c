/- Contracts of the document's own reader (package hauberkref01): what its calls answer, for every reader that has l left. No conditions beyond sizes that a slice of bytes has. -/
import Derived.Test.YthiijonmnebjgaaGreatCz
namespace Go.Proofs.YthiijonmnebjgaaGreat
open Go.RowKit
/-- The document's reader at block p that has l left. -/
structure Rf (w : World) (p : Nat) (v : Value) (l : List Int) : Prop where
  blk : w.heap[p]? = some (.cells #[v] 128 (0, 0))
  sl : Sl w v l
  ne : v.ownBlock ≠ some p
theorem Rf.mod2 {S : Nat → Prop} {w w' : World} {p : Nat} {v : Value} {l : List Int} (h : Rf w p v l) (hm : Mod S w w') (hp : ¬ S p) (hv : l ≠ [] → ∀ g, v.ownBlock = some g → ¬ S g) : Rf w' p v l :=
  ⟨hm.obj h.blk hp, h.sl.mod2 hm hv, h.ne⟩
theorem Rf.c0 {w : World} {p : Nat} {v : Value} {l : List Int} (h : Rf w p v l) : w.cell? ⟨p, 0, none⟩ = some v := cell_of_one h.blk
theorem Rf.f0 {w : World} {p : Nat} {v : Value} {l : List Int} (h : Rf w p v l) : w.frozen? ⟨p, 0, none⟩ = false := free_of_one h.blk
theorem Rf.stored {w : World} {p cap : Nat} {ao : Option Addr} {l : List Int} (h : Rf w p (.slice ao l.length cap) l) (k : Nat) (hk : k ≤ l.length) (v' : Value)
    (hv : v' = .slice (if cap = k then ao else ao.map (·.add (k * 1))) (l.length - k) (cap - k)) :
    Rf (w.setCell ⟨p, 0, none⟩ v') p v' (l.drop k) ∧ Mod (fun i => i = p) w (w.setCell ⟨p, 0, none⟩ v') ∧ (∀ g, v'.ownBlock = some g → (Value.slice ao l.length cap).ownBlock = some g) := by
  have hm : Mod (fun i => i = p) w (w.setCell ⟨p, 0, none⟩ v') := (Mod.refl _ w).setCell _ _ (.inl rfl)
  have hb : ∀ g, v'.ownBlock = some g → (Value.slice ao l.length cap).ownBlock = some g := by
    intro g hg
    subst hv
    have := Sl.drop_blk g hg
    cases ao with
    | none => simp [Value.ownBlock] at this
    | some a => simpa [Value.ownBlock] using this
  refine ⟨⟨one_setCell h.blk, ?_, fun e => h.ne (hb _ e)⟩, hm, hb⟩
  subst hv
  exact (h.sl.drop k hk).mod hm (fun g hg e => h.ne (e ▸ hb g hg))

theorem part_facts {c : Int} {j : Nat} (hj : j ≤ 7) : (c % 128).toNat * 128 ^ j < 72057594037927936 := by
  have h2 : 128 ^ j ≤ 128 ^ 7 := Nat.pow_le_pow_right (by omega) hj
  have h3 : (c % 128).toNat * 128 ^ j ≤ 127 * 128 ^ 7 := Nat.mul_le_mul (by omega) h2
  omega
set_option maxRecDepth 100000 in
set_option maxHeartbeats 1000000 in
theorem rnumber (p : Nat) (v : Value) (l : List Int) (w : World) (h : Rf w p v l) :
    Calls Tryz.prog 100 #[.pointer (some ⟨p, 0, none⟩)] w fun e w' => e = .returned (.tuple #[.int .i64 (num 0 0 l).1, .int .i64 (num 0 0 l).2.1, .int .i64 (num 0 0 l).2.2]) ∧ w' = w := by
  have hp := h.c0
  obtain ⟨ao, cap, rfl, hlc, hcm, _, hcell⟩ := h.sl.form
  have hr := h.sl.rng
  clear h
  unfold maxLen at hcm
  go_enter Tryz.func100, Tryz.ntmps100
  go_wp2
  go_loop [5, 6] (fun s i => ∃ k x : Nat, i = .int .i64 k ∧ s = .int .i64 x ∧ k ≤ l.length ∧ k ≤ 8 ∧ Hid (x < 128 ^ k) ∧ Hid (num 0 0 l = if k = 8 then (0, 0, 4) else num x k (l.drop k))) (fun _ i => 8 - (intOf i).toNat)
  case atStart => exact ⟨0, 0, rfl, rfl, by omega, by omega, by show 0 < 128 ^ 0; omega, rfl⟩
  case round =>
    obtain ⟨k, x, rfl, rfl, hk, hk8, hx, hn⟩ := hrel
    by_cases h8 : k = 8
    · have hn' := hn.out
      rw [if_pos h8] at hn'
      have HN : Hid (num 0 0 l = (0, 0, 4)) := hn'
      have hge : ¬ k < 8 := by omega
      clear hn' hn h8 hcell
      go_wp2
      go_ret3
      rw [HN.out]
      exact ⟨rfl, rfl⟩
    · have hn' := hn.out
      rw [if_neg h8] at hn'
      have hk7 : k < 8 := by omega
      clear h8 hn
      by_cases hlt : k < l.length
      · obtain ⟨b, off, rfl, hc⟩ := hcell (by rintro rfl; simp at hlt)
        obtain ⟨c, hcd⟩ : ∃ c, c = l.getD k 0 := ⟨_, rfl⟩
        have hck := hc k hlt
        have hcr : 0 ≤ c ∧ c ≤ 255 := hcd ▸ hr _ (getD_mem hlt)
        rw [drop_cons hlt, ← hcd, num] at hn'
        rw [← hcd] at hck
        have HX := hx.out
        have hX' := acc_lt (c := c % 128) HX (by omega) (by omega)
        have hX8 : 128 ^ (k + 1) ≤ 128 ^ 8 := Nat.pow_le_pow_right (by omega) (by omega)
        have e1 : c.toNat % 128 = (c % 128).toNat := by omega
        rw [e1] at hn'
        have hpf := part_facts (c := c) (j := k) (by omega)
        have hxb : x < 72057594037927936 := by
          have : 128 ^ k ≤ 128 ^ 8 := Nat.pow_le_pow_right (by omega) (by omega)
          omega
        generalize hy : x + (c % 128).toNat * 128 ^ k = y at hn' hX'
        have HY : Hid (x + (c % 128).toNat * 128 ^ k = y) := hy
        have HXL : Hid (y < 128 ^ (k + 1)) := hX'
        have hy8 : y < 72057594037927936 := by omega
        have HN : Hid (num 0 0 l = _) := hn'
        have HPF : Hid ((c % 128).toNat * 128 ^ k < 72057594037927936) := hpf
        clear hn' hy hX8 hcd hx HX hX' hc hr e1 hpf hcell
        go_wp2
        go_loop [7, 8] (fun pt i => ∃ j z : Nat, i = .int .i64 j ∧ pt = .int .i64 z ∧ j ≤ k ∧ Hid (z = (c % 128).toNat * 128 ^ j)) (fun _ i => k - (intOf i).toNat)
        case atStart => exact ⟨0, (c % 128).toNat, rfl, by go_num, by omega, by show _ = _; simp⟩
        case round =>
          obtain ⟨j, z, rfl, rfl, hj, hz⟩ := hrel
          by_cases hjk : j < k
          · have hz7 : z ≤ 562949953421312 := by
              rw [hz.out]
              have h2 : 128 ^ j ≤ 128 ^ 6 := Nat.pow_le_pow_right (by omega) (by omega)
              have h3 : (c % 128).toNat * 128 ^ j ≤ 127 * 128 ^ 6 := Nat.mul_le_mul (by omega) h2
              omega
            have HZ : Hid (z * 128 = (c % 128).toNat * 128 ^ (j + 1)) := by show _ = _; rw [hz.out, Nat.pow_succ, Nat.mul_assoc]
            clear hz
            go_wp2
            go_round
            case rel => exact ⟨j + 1, z * 128, by go_num, by go_num, by omega, HZ⟩
            case measure => simp [intOf]; omega
          · obtain rfl : j = k := by omega
            have hxy : (x : Int) + (z : Int) = (y : Int) := by rw [← HY.out, hz.out]; simp
            have hzb : z < 72057594037927936 := by rw [hz.out]; exact HPF.out
            clear hz HY HPF
            by_cases h128 : c < 128
            · have HN2 := HN.out
              rw [if_pos h128] at HN2
              clear HN
              by_cases hz : 0 < j ∧ c = 0
              · rw [if_pos hz] at HN2
                have HN : Hid (num 0 0 l = _) := HN2
                clear HN2
                obtain ⟨hk0, hc0⟩ := hz
                have hcz : (c == 0) = true := by simp [hc0]
                have Hc0 : Hid (c = 0) := hc0
                clear hc0
                go_wp2
                go_ret3
                rw [HN.out]
                exact ⟨rfl, rfl⟩
              · rw [if_neg hz] at HN2
                by_cases hbig : 9007199254740991 < y
                · rw [if_pos hbig] at HN2
                  have HN : Hid (num 0 0 l = _) := HN2
                  clear HN2
                  by_cases hk0 : 0 < j
                  · have hcz : (c == 0) = false := by simp; omega
                    go_wp2
                    go_ret3
                    rw [HN.out]
                    exact ⟨rfl, rfl⟩
                  · go_wp2
                    go_ret3
                    rw [HN.out]
                    exact ⟨rfl, rfl⟩
                · rw [if_neg hbig] at HN2
                  have HN : Hid (num 0 0 l = _) := HN2
                  clear HN2
                  by_cases hk0 : 0 < j
                  · have hcz : (c == 0) = false := by simp; omega
                    go_wp2
                    go_ret3
                    rw [HN.out]
                    exact ⟨by simp, rfl⟩
                  · go_wp2
                    go_ret3
                    rw [HN.out]
                    exact ⟨by simp, rfl⟩
            · have HN2 := HN.out
              rw [if_neg h128] at HN2
              have HN3 : Hid (num 0 0 l = if j + 1 = 8 then (0, 0, 4) else num y (j + 1) (List.drop (j + 1) l)) := by
                show _ = _
                rw [HN2]
                by_cases h7 : j = 7
                · rw [if_pos h7, if_pos (by omega)]
                · rw [if_neg h7, if_neg (by omega)]
              clear HN HN2
              go_wp2
              go_round
              case rel => exact ⟨j + 1, y, by go_num, rfl, by omega, by omega, HXL, HN3⟩
              case measure => simp [intOf]; omega
      · have HN : Hid (num 0 0 l = (0, 0, 3)) := by
          show _ = _
          rw [hn', List.drop_eq_nil_of_le (by omega)]
          rfl
        clear hn' hcell
        go_wp2
        go_ret3
        rw [HN.out]
        exact ⟨rfl, rfl⟩
end Go.Proofs.YthiijonmnebjgaaGreat
