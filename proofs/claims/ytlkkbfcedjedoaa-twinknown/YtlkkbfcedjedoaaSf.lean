/- Contract of sum's Seal: for any slice of bytes it answers them with their check behind them, in new memory, and turns nothing that was there. Conditions: slices of at most 2^47 - 4 bytes. -/
import Derived.Test.YtlkkbfcedjedoaaSd
import Derived.Laws.CopyOwn
import Derived.Laws.MakeOwn
namespace Go.Proofs.Ytlkkbfcedjedoaa.Sm
open Go.RowKit
theorem of_below {w w' : World} (h : Below w.heap.size w w') : Mod (fun _ => False) w w' := ⟨h.os, h.tape, h.output, h.size, fun k hk _ => h.block k hk⟩
theorem Own.byte {w wr w1 : World} {g cap : Nat} {v' : Value} {l' : List Int} {c : Int} {t : TypeId} (hm : Mod (fun _ => False) w wr) (hv : ∀ g, v'.ownBlock = some g → w.heap.size ≤ g)
    (hown : w1.ownsRow 0 5 1 (.slice (some ⟨g, 0, none⟩) (l'.length + 1) cap) (l'.length + 1) (U l' ++ [.int .u8 c]))
    (hgrow : (wr.alloc (.cells #[.int .u8 c] t)).grownBy w1 v'.ownBlock) (hg : v'.ownBlock = some g ∨ g = wr.heap.size + 1) :
    Own w1 (.slice (some ⟨g, 0, none⟩) (l'.length + 1) cap) (l' ++ [c]) ∧ Mod (fun _ => False) w w1 ∧ (∀ g', (Value.slice (some ⟨g, 0, none⟩) (l'.length + 1) cap).ownBlock = some g' → w.heap.size ≤ g') := by
  refine ⟨?_, (hm.alloc _).grown hgrow (fun k hk hlt => by have := hv k hk; omega), ?_⟩
  · unfold Own
    rw [U_app]
    simpa [U] using hown
  · intro g' hg'
    simp only [Value.ownBlock, Option.some.injEq] at hg'
    subst hg'
    rcases hg with h | h
    · exact hv _ h
    · have := hm.size; omega
theorem make_run (n : Nat) (hn : n + 4 ≤ 140737488355328) : ∃ Z : Array Value, Z.size = n + 4 ∧ ∀ W : World, (Instr.makeSlice 22 (.int .i64 (n : Int)) (.int .i64 ((n : Int) + 4))).run Try.prog W = .ok (.slice (some ⟨W.heap.size, 0, none⟩) n (n + 4)) (W.alloc (.cells Z 5)) := by
  obtain ⟨i0, hi, hz0, hz1, hz2⟩ := info_parts info5
  refine ⟨madeCells (Value.int .u8 0).cells ((((n : Int) + 4).toNat) * i0.size), ?_, fun W => ?_⟩
  · rw [size_madeCells, hz1]; omega
  · have h := run_make (P := Try.prog) W 22 5 i0 (.int .u8 0) Try.underlying22 hi hz0 .i64 .i64 (n : Int) ((n : Int) + 4) (by omega) (by omega) (by rw [hz2]; omega) (by omega)
    rw [h]
    simp
    omega
theorem Own.spliced {w : World} {g n : Nat} {Z : List Value} {l : List Int} (hl : n = l.length) (hZ : Z.length = n + 4) (hn : n + 4 ≤ 140737488355328) (h : w.heap[g]? = some (.cells (splice Z 0 (U l)).toArray 5 (0, 0))) : Own w (.slice (some ⟨g, 0, none⟩) n (n + 4)) l := by
  subst hl
  refine ⟨by simp [U], .inr ⟨g, l.length + 4, _, rfl, Nat.zero_le _, h, by omega, by unfold maxLen; omega, ?_, ?_⟩⟩
  · simp only [List.size_toArray]
    rw [length_splice _ _ _ (by rw [U_len]; omega), hZ, Nat.mul_one]
  · simp [splice, U]
theorem copy_src {w w1 : World} {ao : Option Addr} {n : Nat} {l : List Int} {Z : Array Value} (hm1 : Mod (fun _ => False) w w1)
    (h4 : l ≠ [] → ∃ b off, ao = some ⟨b, off, none⟩ ∧ ∀ (j : Nat), j < n → w.cell? ⟨b, off + j, none⟩ = some (.int .u8 (l.getD j 0))) (hn : n = l.length) :
    0 < (U l).length → some (⟨w1.heap.size, 0, none⟩ : Addr) = some ⟨w1.heap.size, 0, none⟩ ∧ ∃ ad, ao = some ad ∧ ∀ j u, (U l)[j]? = some u → (w1.alloc (.cells Z 5)).cell? (ad.add j) = some u := fun h0 => by
  refine ⟨rfl, ?_⟩
  obtain ⟨b, off, rfl, hc⟩ := h4 (by rintro rfl; simp [U] at h0)
  refine ⟨_, rfl, cells_of fun j hj => ?_⟩
  exact (hm1.alloc _).cell (hc j (by rw [hn]; exact hj)) (fun h => h)
set_option maxRecDepth 100000 in
set_option maxHeartbeats 2000000 in
theorem Seal_any (v : Value) (l : List Int) (w : World) (hs : Sl w v l) (hb : l.length + 4 ≤ 140737488355328) :
    Calls Try.prog 31 #[v] w fun e w' => ∃ v', e = .returned v' ∧ Own w' v' (sealed l) ∧ Mod (fun _ => False) w w' ∧ (∀ g, v'.ownBlock = some g → w.heap.size ≤ g) := by
  have HS : Hid (Sl w v l) := hs
  obtain ⟨ao, cap, rfl, h1, h2, h3, h4⟩ := hs.form
  obtain ⟨i0, hi, hz0, hz1, hz2⟩ := info_parts info5
  have hsz5 : (Try.prog.info? 5).map (·.size) = some 1 := by rw [hi]; simp [hz1]
  obtain ⟨n, hn⟩ : ∃ n, n = l.length := ⟨_, rfl⟩
  rw [← hn] at h1 h4 hb ⊢
  have HN : Hid (n = l.length) := hn
  have H4 : Hid (l ≠ [] → ∃ b off, ao = some ⟨b, off, none⟩ ∧ ∀ (j : Nat), j < n → w.cell? ⟨b, off + j, none⟩ = some (.int .u8 (l.getD j 0))) := h4
  have HO : Hid (Calls Try.prog 65 #[.slice ao n cap] w fun e w' => e = .returned (.int .u32 (chk l : Nat)) ∧ Mod (fun _ => False) w w') := by
    have := Of_any _ _ _ hs
    rw [← hn] at this
    exact this
  obtain ⟨Z, hZ, hmk⟩ := make_run n hb
  have hx := chk_lt l
  have HF : Hid (sealed l = l ++ four (chk l)) := rfl
  generalize chk l = x at HO hx HF
  generalize sealed l = SL at HF ⊢
  clear hs h4 hn h3
  go_enter Try.func31, Try.ntmps31
  go_wp2_with fail
  refine HO.out.mono ?_
  rintro e w1 ⟨rfl, hm1⟩
  clear HO
  have hbel : Below w.heap.size w (w1.alloc (.cells Z 5)) := (hm1.alloc _).below _ (Nat.le_refl _) (fun _ h => h.elim)
  have hsw := hm1.size
  have hgw : (w1.alloc (.cells Z 5)).heap[w1.heap.size]? = some (.cells Z.toList.toArray 5 (0, 0)) := by rw [Array.toArray_toList]; exact heap_alloc_last w1 _
  have HG : Hid _ := hgw
  clear hgw
  have HM1 : Hid ((U l).length = Nat.min n n) := by show _ = _; rw [U_len, ← HN.out]; exact (Nat.min_self n).symm
  have HFit : Hid (0 + (U l).length ≤ Z.toList.length) := by show _ ≤ _; rw [U_len, ← HN.out]; simp; omega
  go_wp2_with (refine wpList_copy_splice rfl (.tmp 14) (.tmp 15) 22 22 rfl 5 Try.underlying22 hsz5 (some ⟨w1.heap.size, 0, none⟩) ao n (n + 4) n cap rfl rfl w1.heap.size 0 Z.toList 5 HG.out (U l) HM1.out (copy_src hm1 H4.out HN.out) HFit.out (U_one l) w.heap.size w hbel hsw ?_; intro w2 HG2 hB2)
  have hO2 : Own w2 (.slice (some ⟨w1.heap.size, 0, none⟩) n (n + 4)) l := Own.spliced HN.out (by simpa using hZ) hb HG2.out
  have hM2 := of_below hB2
  clear HG2 hB2 HG HM1 HFit hbel hmk hZ hm1 H4 HS
  go_loopw [4, 5] (fun s i wr => ∃ (k : Nat) (l' : List Int), i = .int .i64 (24 - 8 * (k : Int)) ∧ k ≤ 4 ∧ Hid (l' ++ (four x).drop k = SL) ∧ l'.length = n + k ∧ Own wr s l' ∧ Mod (fun _ => False) w wr ∧ (∀ g, s.ownBlock = some g → w.heap.size ≤ g)) (fun _ i _ => (intOf i + 8).toNat)
  case atStart => exact ⟨0, l, rfl, by omega, by show _ = _; rw [HF.out]; rfl, HN.out.symm, hO2, hM2, by intro g hg; simp only [Value.ownBlock, Option.some.injEq] at hg; omega⟩
  case round =>
    obtain ⟨k, l', rfl, hk, hl', hlen, hown, hm, hv⟩ := hrel
    have HLn : Hid (l'.length = n + k) := hlen
    clear hlen hO2 hM2 HF
    have hcases : k = 0 ∨ k = 1 ∨ k = 2 ∨ k = 3 ∨ k = 4 := by omega
    rcases hcases with rfl | rfl | rfl | rfl | rfl
    · have hwb : IntKind.u8.wrap ((x : Int) / 16777216) = ((x / 16777216 % 256 : Nat) : Int) := by rw [IntKind.wrap_u8']; omega
      have hL2 : l' ++ [((x / 16777216 % 256 : Nat) : Int)] ++ (four x).drop 1 = SL := by rw [← hl'.out, List.append_assoc]; rfl
      have HL2 : Hid (l' ++ [((x / 16777216 % 256 : Nat) : Int)] ++ (four x).drop 1 = SL) := hL2
      clear hL2 hl'
      obtain ⟨c, hc⟩ : ∃ c : Nat, c = x / 16777216 % 256 := ⟨_, rfl⟩
      rw [← hc] at HL2 hwb
      have hc8 : c < 256 := by omega
      clear hc
      go_wp2_with (at_builtin; refine wpList_append_lies _ rfl _ _ 22 rfl 0 5 i0 (.int .u8 0) 1 1 Try.underlying22 hi hz0 hz1 hz2 rfl (by decide) u4 l'.length (U l') rfl (hown.alloc _) ⟨wr.heap.size, 0, none⟩ 1 1 [.int .u8 (c : Int)] rfl rfl (app1 _ _ _) (U_one [(c : Int)]) (by omega) (by have := HLn.out; simp only [maxLen]; omega) (by have := HLn.out; omega) (Nat.zero_le _) (wr.heap.size + 1) (by simp) ?_; intro g cap1 w3 hown1 hgrow hg hlt)
      have R := Own.byte hm hv hown1 hgrow hg
      go_roundw
      case rel => exact ⟨1, l' ++ [(c : Int)], by first | rfl | go_num, by omega, HL2, by have := HLn.out; simp; omega, R.1, R.2.1, R.2.2⟩
      case measure => simp [intOf]
    · have hwb : IntKind.u8.wrap ((x : Int) / 65536) = ((x / 65536 % 256 : Nat) : Int) := by rw [IntKind.wrap_u8']; omega
      have hL2 : l' ++ [((x / 65536 % 256 : Nat) : Int)] ++ (four x).drop 2 = SL := by rw [← hl'.out, List.append_assoc]; rfl
      have HL2 : Hid (l' ++ [((x / 65536 % 256 : Nat) : Int)] ++ (four x).drop 2 = SL) := hL2
      clear hL2 hl'
      obtain ⟨c, hc⟩ : ∃ c : Nat, c = x / 65536 % 256 := ⟨_, rfl⟩
      rw [← hc] at HL2 hwb
      have hc8 : c < 256 := by omega
      clear hc
      go_wp2_with (at_builtin; refine wpList_append_lies _ rfl _ _ 22 rfl 0 5 i0 (.int .u8 0) 1 1 Try.underlying22 hi hz0 hz1 hz2 rfl (by decide) u4 l'.length (U l') rfl (hown.alloc _) ⟨wr.heap.size, 0, none⟩ 1 1 [.int .u8 (c : Int)] rfl rfl (app1 _ _ _) (U_one [(c : Int)]) (by omega) (by have := HLn.out; simp only [maxLen]; omega) (by have := HLn.out; omega) (Nat.zero_le _) (wr.heap.size + 1) (by simp) ?_; intro g cap1 w3 hown1 hgrow hg hlt)
      have R := Own.byte hm hv hown1 hgrow hg
      go_roundw
      case rel => exact ⟨2, l' ++ [(c : Int)], by first | rfl | go_num, by omega, HL2, by have := HLn.out; simp; omega, R.1, R.2.1, R.2.2⟩
      case measure => simp [intOf]
    · have hwb : IntKind.u8.wrap ((x : Int) / 256) = ((x / 256 % 256 : Nat) : Int) := by rw [IntKind.wrap_u8']; omega
      have hL2 : l' ++ [((x / 256 % 256 : Nat) : Int)] ++ (four x).drop 3 = SL := by rw [← hl'.out, List.append_assoc]; rfl
      have HL2 : Hid (l' ++ [((x / 256 % 256 : Nat) : Int)] ++ (four x).drop 3 = SL) := hL2
      clear hL2 hl'
      obtain ⟨c, hc⟩ : ∃ c : Nat, c = x / 256 % 256 := ⟨_, rfl⟩
      rw [← hc] at HL2 hwb
      have hc8 : c < 256 := by omega
      clear hc
      go_wp2_with (at_builtin; refine wpList_append_lies _ rfl _ _ 22 rfl 0 5 i0 (.int .u8 0) 1 1 Try.underlying22 hi hz0 hz1 hz2 rfl (by decide) u4 l'.length (U l') rfl (hown.alloc _) ⟨wr.heap.size, 0, none⟩ 1 1 [.int .u8 (c : Int)] rfl rfl (app1 _ _ _) (U_one [(c : Int)]) (by omega) (by have := HLn.out; simp only [maxLen]; omega) (by have := HLn.out; omega) (Nat.zero_le _) (wr.heap.size + 1) (by simp) ?_; intro g cap1 w3 hown1 hgrow hg hlt)
      have R := Own.byte hm hv hown1 hgrow hg
      go_roundw
      case rel => exact ⟨3, l' ++ [(c : Int)], by first | rfl | go_num, by omega, HL2, by have := HLn.out; simp; omega, R.1, R.2.1, R.2.2⟩
      case measure => simp [intOf]
    · have hwb : IntKind.u8.wrap ((x : Int)) = ((x % 256 : Nat) : Int) := by rw [IntKind.wrap_u8']; omega
      have hL2 : l' ++ [((x % 256 : Nat) : Int)] ++ (four x).drop 4 = SL := by rw [← hl'.out, List.append_assoc]; rfl
      have HL2 : Hid (l' ++ [((x % 256 : Nat) : Int)] ++ (four x).drop 4 = SL) := hL2
      clear hL2 hl'
      obtain ⟨c, hc⟩ : ∃ c : Nat, c = x % 256 := ⟨_, rfl⟩
      rw [← hc] at HL2 hwb
      have hc8 : c < 256 := by omega
      clear hc
      go_wp2_with (at_builtin; refine wpList_append_lies _ rfl _ _ 22 rfl 0 5 i0 (.int .u8 0) 1 1 Try.underlying22 hi hz0 hz1 hz2 rfl (by decide) u4 l'.length (U l') rfl (hown.alloc _) ⟨wr.heap.size, 0, none⟩ 1 1 [.int .u8 (c : Int)] rfl rfl (app1 _ _ _) (U_one [(c : Int)]) (by omega) (by have := HLn.out; simp only [maxLen]; omega) (by have := HLn.out; omega) (Nat.zero_le _) (wr.heap.size + 1) (by simp) ?_; intro g cap1 w3 hown1 hgrow hg hlt)
      have R := Own.byte hm hv hown1 hgrow hg
      go_roundw
      case rel => exact ⟨4, l' ++ [(c : Int)], by first | rfl | go_num, by omega, HL2, by have := HLn.out; simp; omega, R.1, R.2.1, R.2.2⟩
      case measure => simp [intOf]
    · have HE : Hid (l' = SL) := by show _ = _; rw [← hl'.out]; simp [four]
      clear hl'
      go_wp2
      go_ret
      exact ⟨_, rfl, HE.out ▸ hown, hm, hv⟩
end Go.Proofs.Ytlkkbfcedjedoaa.Sm
