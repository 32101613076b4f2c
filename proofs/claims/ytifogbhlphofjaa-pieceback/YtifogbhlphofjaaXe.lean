/- Contracts of the statements' text and bytes, and of piece's countParts and isBlank. Conditions: numbers of bytes. -/
import Derived.Test.YtifogbhlphofjaaXap
import Derived.OwnWalk
namespace Go.Proofs.Ytifogbhlphofjaa
open Go.RowKit Go.Maps
theorem text_any (o i : Int) (w : World) : Calls Try.prog 23 #[.int .i64 o, .int .i64 i] w fun e w' => e = .returned (.agg #[.int .i64 1, .int .i64 o, .int .i64 1, .int .i64 i, .int .i64 0, .int .i64 0, .int .i64 3, .bool false, .int .i64 0, .int .i64 0, .int .i64 0, .int .i64 0, .slice none 0 0]) ∧ Mod (fun _ => False) w w' := by
  go_enter Try.func23, Try.ntmps23
  go_wp2
  exact bodyPost_ret (resT infoMs Try.underlying28 rfl rfl rfl (Bk.new w _ _) rfl) rfl ⟨rfl, (Mod.refl _ w).alloc _⟩
/-- So many bytes, from a number on. -/
def bts (n f : Nat) : List Int := (List.range n).map fun i => ((f + i : Nat) : Int)
theorem bts_len (n f : Nat) : (bts n f).length = n := by simp [bts]
theorem bts_succ (n f : Nat) : bts (n + 1) f = bts n f ++ [((f + n : Nat) : Int)] := by simp [bts, List.range_succ]
theorem bts_rng (n f : Nat) (h : f + n ≤ 256) : ∀ c ∈ bts n f, 0 ≤ c ∧ c ≤ 255 := by
  intro c hc
  simp only [bts, List.mem_map, List.mem_range] at hc
  obtain ⟨i, hi, rfl⟩ := hc
  omega
theorem one_byte {w wr w1 : World} {g cap : Nat} {v' : Value} {l' : List Int} {c : Int} {t : TypeId} (hm : Mod (fun _ => False) w wr) (hv : ∀ g, v'.ownBlock = some g → w.heap.size ≤ g)
    (hown : w1.ownsRow 0 5 1 (.slice (some ⟨g, 0, none⟩) (l'.length + 1) cap) (l'.length + 1) (U l' ++ [.int .u8 c]))
    (hgrow : (wr.alloc (.cells #[.int .u8 c] t)).grownBy w1 v'.ownBlock) (hg : v'.ownBlock = some g ∨ g = wr.heap.size + 1) :
    Own w1 (.slice (some ⟨g, 0, none⟩) (l'.length + 1) cap) (l' ++ [c]) ∧ Mod (fun _ => False) w w1 ∧ (∀ b, (Value.slice (some ⟨g, 0, none⟩) (l'.length + 1) cap).ownBlock = some b → w.heap.size ≤ b) := by
  refine ⟨?_, (hm.alloc _).grown hgrow (fun k hk hlt => by have := hv k hk; omega), ?_⟩
  · unfold Own
    rw [U_app]
    simpa [U] using hown
  · intro g' hg'
    simp only [Value.ownBlock, Option.some.injEq] at hg'
    subst hg'
    rcases hg with h | h
    · exact hv _ h
    · have := hm.size
      omega
set_option maxRecDepth 100000 in
theorem bytes_any (n f : Nat) (w : World) (h : f + n ≤ 256) : Calls Try.prog 24 #[.int .i64 (n : Int), .int .i64 (f : Int)] w fun e w' => ∃ v, e = .returned v ∧ Own w' v (bts n f) ∧ Mod (fun _ => False) w w' ∧ (∀ b, v.ownBlock = some b → w.heap.size ≤ b) := by
  obtain ⟨i0, hi, hz0, hz1, hz2⟩ := info_parts info5
  go_enter Try.func24, Try.ntmps24
  go_wp2
  go_loopw [5, 6] (fun v i wr => ∃ (j : Nat), i = .int .i64 (j : Int) ∧ j ≤ n ∧ Own wr v (bts j f) ∧ Mod (fun _ => False) w wr ∧ (∀ b, v.ownBlock = some b → w.heap.size ≤ b)) (fun _ i _ => (n : Int).toNat - (intOf i).toNat)
  case atStart => exact ⟨0, rfl, by omega, Own.nil _, Mod.refl _ _, by simp [Value.ownBlock]⟩
  case round =>
    obtain ⟨j, rfl, hj, hown, hm, hv⟩ := hrel
    by_cases hjn : j < n
    · obtain ⟨ao, cp, rfl⟩ := hown.shape
      have hl : (bts j f).length ≤ 256 := by rw [bts_len]; omega
      have hs := bts_succ j f
      generalize bts j f = L at hl hs hown hv ⊢
      have HS : Hid (bts (j + 1) f = L ++ [((f + j : Nat) : Int)]) := hs
      clear hs
      have hjj : (j : Int) < n := by omega
      go_wp2_with (at_builtin; refine wpList_append_lies _ rfl _ _ 26 rfl 0 5 i0 (.int .u8 0) 1 1 Try.underlying26 hi hz0 hz1 hz2 rfl (by decide) (.slice ao L.length cp) L.length (U L) rfl (hown.alloc _) ⟨wr.heap.size, 0, none⟩ 1 1 [.int .u8 ((f : Int) + j)] rfl rfl (app1 _ _ _) (U_one [(f : Int) + j]) (by omega) (by simp only [maxLen]; omega) (by omega) (Nat.zero_le _) (wr.heap.size + 1) (by simp) ?_; intro g cap1 w1 hown1 hgrow hg hlt)
      have R := one_byte hm hv hown1 hgrow hg
      go_roundw
      case rel => exact ⟨j + 1, by go_num, by omega, by rw [HS.out]; simpa using R.1, R.2.1, R.2.2⟩
      case measure => simp [intOf]; omega
    · have e : j = n := by omega
      subst e
      obtain ⟨ao, cp, rfl⟩ := hown.shape
      go_wp2
      go_ret
      exact ⟨.slice ao (bts j f).length cp, rfl, hown, hm, hv⟩
/-- How many parts so many bytes have. -/
def pcn (n : Nat) : Nat := max 1 ((n + 47) / 48)
theorem count_any (n : Nat) (w : World) (h : n ≤ 200) : Calls Try.prog 27 #[.int .i64 (n : Int)] w fun e w' => e = .returned (.int .i64 (pcn n : Int)) ∧ w' = w := by
  have e1 : (pcn n : Int) = max 1 (((n : Int) + 48 - 1) / 48) := by
    unfold pcn
    omega
  rw [e1]
  go_enter Try.func27, Try.ntmps27
  go_wp2
  all_goals go_ret
  all_goals exact ⟨by show Ending.returned (.int .i64 _) = _; congr 2; omega, rfl⟩
end Go.Proofs.Ytifogbhlphofjaa
