/- Plain: packed keys are unpacked as they were, what can be unpacked packs into just these numbers, and packed keys are in the order of the keys. No conditions. -/
import Derived.Test.YtbfgnlpgfjokhaaOa
namespace Go.Proofs.Ytbfgnlpgfjokhaa
open Go.RowKit
theorem pe_zero {s q r n : Int} (h : pe s q r n = 0) : (0 ≤ s ∧ s < 1099511627776) ∧ (0 ≤ q ∧ q < 1099511627776) ∧ (0 ≤ r ∧ r ≤ 8) ∧ (0 ≤ n ∧ n < 68719476736) ∧ ck s q r n = 0 := by
  unfold pe at h
  split at h
  · rename_i h1
    split at h
    · rename_i h2
      have := ck_zero h1
      exact ⟨by omega, by omega, by omega, by omega, h1⟩
    · cases h
  · cases h
theorem pack_rng {s q r n : Int} (h : pe s q r n = 0) : (0 ≤ ph s q ∧ ph s q < 72057594037927936) ∧ (0 ≤ pl q r n ∧ pl q r n < 18446744073709551616) := by
  obtain ⟨h1, h2, h3, h4, _⟩ := pe_zero h
  unfold ph pl
  omega
theorem pack_us {s q r n : Int} (h : pe s q r n = 0) : us (ph s q) = s := by
  obtain ⟨h1, h2, h3, h4, _⟩ := pe_zero h
  unfold us ph
  omega
theorem pack_uq {s q r n : Int} (h : pe s q r n = 0) : uq (ph s q) (pl q r n) = q := by
  obtain ⟨h1, h2, h3, h4, _⟩ := pe_zero h
  unfold uq ph pl
  omega
theorem pack_ur {s q r n : Int} (h : pe s q r n = 0) : ur (pl q r n) = r := by
  obtain ⟨h1, h2, h3, h4, _⟩ := pe_zero h
  unfold ur pl
  omega
theorem pack_un {s q r n : Int} (h : pe s q r n = 0) : un (pl q r n) = n := by
  obtain ⟨h1, h2, h3, h4, _⟩ := pe_zero h
  unfold un pl
  omega
theorem pack_ue {s q r n : Int} (h : pe s q r n = 0) : ue (ph s q) (pl q r n) = 0 := by
  rw [ue, if_pos]
  refine ⟨(pack_rng h).1.2, ?_⟩
  rw [pack_us h, pack_uq h, pack_ur h, pack_un h]
  exact (pe_zero h).2.2.2.2
theorem px_ok {s q r n : Int} (h : pe s q r n = 0) : px s q r n = ph s q := by rw [px, if_pos h]
theorem py_ok {s q r n : Int} (h : pe s q r n = 0) : py s q r n = pl q r n := by rw [py, if_pos h]
theorem px_no {s q r n : Int} (h : ¬ pe s q r n = 0) : px s q r n = 0 := by rw [px, if_neg h]
theorem py_no {s q r n : Int} (h : ¬ pe s q r n = 0) : py s q r n = 0 := by rw [py, if_neg h]
/-- There and back. -/
theorem pack_back {s q r n : Int} (h : pe s q r n = 0) : ue (px s q r n) (py s q r n) = 0 ∧ vs (px s q r n) (py s q r n) = s ∧ vq (px s q r n) (py s q r n) = q ∧ vr (px s q r n) (py s q r n) = r ∧ vn (px s q r n) (py s q r n) = n := by
  rw [px_ok h, py_ok h, vs, vq, vr, vn, if_pos (pack_ue h), if_pos (pack_ue h), if_pos (pack_ue h), if_pos (pack_ue h)]
  exact ⟨pack_ue h, pack_us h, pack_uq h, pack_ur h, pack_un h⟩
theorem p_rng (s q r n : Int) : (0 ≤ px s q r n ∧ px s q r n < 18446744073709551616) ∧ (0 ≤ py s q r n ∧ py s q r n < 18446744073709551616) := by
  by_cases h : pe s q r n = 0
  · have := pack_rng h
    rw [px_ok h, py_ok h]
    omega
  · rw [px_no h, py_no h]
    omega
theorem order_lt {s q r n s' q' r' n' : Int} (h : pe s q r n = 0) (h' : pe s' q' r' n' = 0) :
    (s < s' ∨ (s = s' ∧ (q < q' ∨ (q = q' ∧ (r < r' ∨ (r = r' ∧ n ≤ n')))))) ↔ (ph s q < ph s' q' ∨ (ph s q = ph s' q' ∧ pl q r n ≤ pl q' r' n')) := by
  obtain ⟨h1, h2, h3, h4, _⟩ := pe_zero h
  obtain ⟨g1, g2, g3, g4, _⟩ := pe_zero h'
  have e1 := pack_uq h
  have e2 := pack_uq h'
  unfold ph pl at *
  omega
theorem order_eq {s q r n s' q' r' n' : Int} (h : pe s q r n = 0) (h' : pe s' q' r' n' = 0) : (px s q r n = px s' q' r' n' ∧ py s q r n = py s' q' r' n') ↔ ks s q r n s' q' r' n' = 0 := by
  rw [ks_zero, px_ok h, py_ok h, px_ok h', py_ok h']
  constructor
  · intro e
    refine ⟨?_, ?_, ?_, ?_⟩
    · rw [← pack_us h, ← pack_us h', e.1]
    · rw [← pack_uq h, ← pack_uq h', e.1, e.2]
    · rw [← pack_ur h, ← pack_ur h', e.2]
    · rw [← pack_un h, ← pack_un h', e.2]
  · rintro ⟨rfl, rfl, rfl, rfl⟩
    exact ⟨rfl, rfl⟩
theorem order_le {s q r n s' q' r' n' : Int} (h : pe s q r n = 0) (h' : pe s' q' r' n' = 0) : ks s q r n s' q' r' n' ≤ 0 ↔ (px s q r n < px s' q' r' n' ∨ (px s q r n = px s' q' r' n' ∧ py s q r n ≤ py s' q' r' n')) := by
  rw [ks_le, px_ok h, py_ok h, px_ok h', py_ok h']
  exact order_lt h h'
/-- Back and there. -/
theorem unpack_back {a b : Int} (ha : 0 ≤ a ∧ a < 18446744073709551616) (hb : 0 ≤ b ∧ b < 18446744073709551616) (h : ue a b = 0) :
    pe (vs a b) (vq a b) (vr a b) (vn a b) = 0 ∧ px (vs a b) (vq a b) (vr a b) (vn a b) = a ∧ py (vs a b) (vq a b) (vr a b) (vn a b) = b ∧ ck (vs a b) (vq a b) (vr a b) (vn a b) = 0 := by
  have h0 := h
  unfold ue at h0
  split at h0
  · rename_i h1
    rw [vs, vq, vr, vn, if_pos h, if_pos h, if_pos h, if_pos h]
    have hp : pe (us a) (uq a b) (ur b) (un b) = 0 := by
      rw [pe, if_pos h1.2, if_pos]
      unfold us uq un
      omega
    refine ⟨hp, ?_, ?_, h1.2⟩
    · rw [px_ok hp]
      unfold ph us uq
      omega
    · rw [py_ok hp]
      unfold pl uq ur un
      omega
  · cases h0
theorem unpack_no {a b : Int} (h : ¬ ue a b = 0) : vs a b = 0 ∧ vq a b = 0 ∧ vr a b = 0 ∧ vn a b = 0 := by
  rw [vs, vq, vr, vn, if_neg h, if_neg h, if_neg h, if_neg h]
  exact ⟨rfl, rfl, rfl, rfl⟩
end Go.Proofs.Ytbfgnlpgfjokhaa
