/- Contract of sum's Of: for any slice of bytes it answers their check and turns nothing that was there. No conditions. -/
import Derived.Test.YtlkkbfcedjedoaaSb
import Derived.Test.YtlkkbfcedjedoaaWd
namespace Go.Proofs.Ytlkkbfcedjedoaa.Sm
open Go.RowKit
/-- A block that holds the whole table. -/
def Tb (w : World) (b : Nat) : Prop := w.heap[b]? = some (.cells (tab 256) 127 (0, 0))
theorem Tb.at {w : World} {b : Nat} (h : Tb w b) (i : Nat) (hi : i < 256) : w.cell? ⟨b, i, none⟩ = some (.int .u32 ((eight i : Nat) : Int)) := by
  rw [cell_of_row w b i (tab 256) 127 (0, 0) h, tab_get 256 i hi, if_pos hi]
theorem Tb.new (w : World) : Tb (w.alloc (.cells (tab 256) 127)) w.heap.size := heap_alloc_last w _
theorem store_new (w : World) (c : Array Value) (hc : c.size = 256) : (storeCells ⟨w.heap.size, 0, none⟩ (tab 256).toList 0).run Try.prog (w.alloc (.cells c 127)) = .ok () (w.alloc (.cells (tab 256) 127)) := by
  obtain ⟨_, hi⟩ := zero_of_info info36
  exact run_storeCells_new w 127 c (tab 256) (by rw [tab_size]; exact hi) (by rw [tab_size, hc]) (tab_one _)
theorem not32 {x : Nat} (h : x < 4294967296) : bits .xor .u32 IntKind.u32.max (x : Int) = ((4294967295 - x : Nat) : Int) := by
  have h1 := u32_xor_nat 4294967295 x (by omega) h
  rw [Nat.xor_comm, ← not_xor h] at h1
  rw [← h1]
  rfl
set_option maxRecDepth 100000 in
set_option maxHeartbeats 1000000 in
theorem Of_zero (ao : Option Addr) (cap : Nat) (w : World) : Calls Try.prog 65 #[.slice ao 0 cap] w fun e w' => e = .returned (.int .u32 0) ∧ Mod (fun _ => False) w w' := by
  obtain ⟨hz36, hi36⟩ := zero_of_info info36
  have hsz := tab_size 256
  have hsg : IntKind.u32.signed = false := rfl
  have hnx : bits .xor .u32 IntKind.u32.max 4294967295 = 0 := by decide
  go_enter Try.func65, Try.ntmps65
  go_wp2_with fail
  refine (table_any _).mono ?_
  rintro e w1 ⟨rfl, hm1⟩
  go_wp2
  rw [store_new _ _ (by simp)]
  simp only [Result.andThen]
  rw [Oper.upon_skip]
  have hm : Mod (fun _ => False) w (w1.alloc (.cells (tab 256) 127)) := hm1.alloc _
  generalize w1.alloc (.cells (tab 256) 127) = W at hm
  generalize w1.heap.size = B
  clear hm1
  go_wp2
  go_loop [4, 10] (fun s i => s = .int .u32 4294967295 ∧ i = .int .i64 0) (fun _ _ => 0)
  case atStart => exact ⟨rfl, rfl⟩
  case round =>
    obtain ⟨rfl, rfl⟩ := hrel
    go_wp2
    go_ret
    exact ⟨rfl, hm⟩
set_option maxRecDepth 100000 in
set_option maxHeartbeats 1000000 in
theorem Of_some (b off cap : Nat) (l : List Int) (w : World) (h : Sl w (.slice (some ⟨b, off, none⟩) l.length cap) l) (hl : l ≠ []) :
    Calls Try.prog 65 #[.slice (some ⟨b, off, none⟩) l.length cap] w fun e w' => e = .returned (.int .u32 (chk l : Nat)) ∧ Mod (fun _ => False) w w' := by
  obtain ⟨hz36, hi36⟩ := zero_of_info info36
  have hsz := tab_size 256
  have HS : Hid (Sl w (.slice (some ⟨b, off, none⟩) l.length cap) l) := h
  clear h
  go_enter Try.func65, Try.ntmps65
  go_wp2_with fail
  refine (table_any _).mono ?_
  rintro e w1 ⟨rfl, hm1⟩
  go_wp2
  rw [store_new _ _ (by simp)]
  simp only [Result.andThen]
  rw [Oper.upon_skip]
  have hm : Mod (fun _ => False) w (w1.alloc (.cells (tab 256) 127)) := hm1.alloc _
  have ht := Tb.new w1
  generalize w1.alloc (.cells (tab 256) 127) = W at hm ht
  generalize w1.heap.size = B at ht
  have hs := HS.out.mod hm (fun _ _ h => h)
  clear hm1 HS
  have hrg := hs.rng
  obtain ⟨ao, cap', e, h1, h2, h3, h4⟩ := hs.form
  cases e
  obtain ⟨b', off', e, hc⟩ := h4 hl
  cases e
  clear hs h4 h3
  have HL : Hid (l ≠ []) := hl
  obtain ⟨n, hn⟩ : ∃ n, n = l.length := ⟨_, rfl⟩
  rw [← hn] at h1 hc ⊢
  have HN : Hid (n = l.length) := hn
  clear hn hl
  unfold maxLen at h2
  have HT : Hid (Tb W B) := ht
  have HC : Hid (∀ j, j < n → W.cell? ⟨b, off + j, none⟩ = some (.int .u8 (l.getD j 0))) := hc
  have HR : Hid (∀ c ∈ l, 0 ≤ c ∧ c ≤ 255) := hrg
  clear ht hc hrg
  go_wp2
  go_loop [4, 10] (fun s i => ∃ (x k : Nat), s = .int .u32 (x : Int) ∧ i = .int .i64 (k : Int) ∧ k ≤ n ∧ x < 4294967296 ∧ Hid (x = crc 4294967295 (l.take k))) (fun _ i => n - (intOf i).toNat)
  case atStart => exact ⟨4294967295, 0, rfl, rfl, by omega, by omega, rfl⟩
  case round =>
    obtain ⟨x, k, rfl, rfl, hk, hx, he⟩ := hrel
    by_cases hlt : k < n
    · have hcell := HC.out k hlt
      have hkl : k < l.length := by have := HN.out; omega
      have hmem : l.getD k 0 ∈ l := by simp [hkl]
      have hcr := HR.out _ hmem
      have hx' : crc 4294967295 (l.take (k + 1)) = eight (x % 256 ^^^ (l.getD k 0).toNat) ^^^ x / 256 := by
        rw [List.take_succ_eq_append_getElem hkl, crc_snoc, ← he.out, eight_look]
        simp [hkl]
      clear hmem hkl he
      obtain ⟨c, hcn⟩ : ∃ c : Nat, (c : Int) = l.getD k 0 := ⟨(l.getD k 0).toNat, by omega⟩
      rw [← hcn] at hcell hcr hx'
      rw [Int.toNat_natCast] at hx'
      clear hcn
      have hc8 : c < 256 := by omega
      have hxr := u8_xor_nat (x % 256) c (by omega) hc8
      obtain ⟨i, hi⟩ : ∃ i, i = x % 256 ^^^ c := ⟨_, rfl⟩
      have hi8 : i < 256 := by rw [hi]; exact xor_lt8 (by omega) hc8
      have htab := HT.out.at i hi8
      rw [← hi] at hxr hx'
      have he32 : eight i < 4294967296 := eight_lt (by omega)
      generalize eight i = E at htab he32 hx'
      have hx2 := u32_xor_nat E (x / 256) he32 (by omega)
      have hlt2 : E ^^^ x / 256 < 4294967296 := xor_lt he32 (by omega)
      have HX : Hid (E ^^^ x / 256 = crc 4294967295 (l.take (k + 1))) := hx'.symm
      clear hx' hi hcr
      rw [show ((x % 256 : Nat) : Int) = (x : Int) % 256 by omega] at hxr
      rw [show ((x / 256 : Nat) : Int) = (x : Int) / 256 by omega] at hx2
      have hi9 : (i : Int) < 256 := by omega
      go_wp2
      go_round
      case rel => exact ⟨E ^^^ x / 256, k + 1, by simp only, by go_num, by omega, hlt2, HX⟩
      case measure => simp [intOf]; omega
    · obtain rfl : k = n := by omega
      have hxe : x = crc 4294967295 l := by rw [he.out, List.take_of_length_le (by have := HN.out; omega)]
      have hch : 4294967295 - x = chk l := by unfold chk; rw [← hxe]
      have hnx := not32 hx
      rw [hch] at hnx
      clear hxe he hch
      have hsg : IntKind.u32.signed = false := rfl
      go_wp2
      go_ret
      exact ⟨rfl, hm⟩
/-- Of: the check. -/
theorem Of_any (v : Value) (l : List Int) (w : World) (hs : Sl w v l) : Calls Try.prog 65 #[v] w fun e w' => e = .returned (.int .u32 (chk l : Nat)) ∧ Mod (fun _ => False) w w' := by
  have h0 := hs
  obtain ⟨ao, cap, rfl, h1, h2, h3, h4⟩ := hs.form
  by_cases hl : l = []
  · subst hl
    refine (Of_zero ao cap w).mono ?_
    rintro e w' ⟨rfl, hm⟩
    exact ⟨rfl, hm⟩
  · obtain ⟨b, off, rfl, hc⟩ := h4 hl
    exact Of_some b off cap l w h0 hl
end Go.Proofs.Ytlkkbfcedjedoaa.Sm
