/- The document's sieve: what New and Fresh answer, and what they leave. Conditions: a sieve that New made, a number that is an int. -/
import Derived.Test.YtcohfhnollnefaaVs
namespace Go.Proofs.Ytcohfhnollnefaa
open Go.RowKit
/-- Sieves of the document at block p: the greatest number, the slice, its numbers. -/
structure Dv (w : World) (p : Nat) (t : Int) (v : Value) (l : List Int) : Prop where
  blk : w.heap[p]? = some (.cells #[.int .i64 t, v] 39 (0, 0))
  own : Own w v l
  far : ∀ g, v.ownBlock = some g → g ≠ p
theorem Dv.mod {S : Nat → Prop} {w w' : World} {p : Nat} {t : Int} {v : Value} {l : List Int} (h : Dv w p t v l) (hm : Mod S w w') (hp : ¬ S p) (hv : ∀ g, v.ownBlock = some g → ¬ S g) : Dv w' p t v l := ⟨hm.obj h.blk hp, h.own.mod hm hv, h.far⟩
theorem dNew_any (w : World) : Calls Try.prog 9 #[] w fun e w' => ∃ p, e = .returned (.pointer (some ⟨p, 0, none⟩)) ∧ Dv w' p 0 (.slice none 0 0) [] ∧ Mod (fun _ => False) w w' ∧ w.heap.size ≤ p := by
  go_enter Try.func9, Try.ntmps9
  go_wp2
  go_ret
  exact ⟨w.heap.size, rfl, ⟨heap_alloc_new w _, Own.nil _, by intro g hg; simp [Value.ownBlock] at hg⟩, (Mod.refl _ w).alloc _, Nat.le_refl _⟩
theorem dFresh_low {p : Nat} {n : Int} {w : World} (hn : n < 1) : Calls Try.prog 11 #[.pointer (some ⟨p, 0, none⟩), .int .i64 n] w fun e w' => e = .returned (.tuple #[.bool false, .int .i64 2]) ∧ w' = w := by
  go_enter Try.func11, Try.ntmps11
  go_wp2
  go_ret2
  exact ⟨rfl, rfl⟩
theorem dFresh_far {p : Nat} {t n : Int} {v : Value} {l : List Int} {w : World} (h : Dv w p t v l) (t0 : 0 ≤ t) (t1 : t ≤ 9223372036854775807) (h1 : ¬ n < 1) (hm : n ≤ 9223372036854775807) (hd : ¬ t - n < 64) : Calls Try.prog 11 #[.pointer (some ⟨p, 0, none⟩), .int .i64 n] w fun e w' => e = .returned (.tuple #[.bool false, .int .i64 0]) ∧ w' = w := by
  have c0 : w.cell? ⟨p, 0, none⟩ = some (.int .i64 t) := by simp [World.cell?, h.blk]
  have hw : wrap64 (t - n) = t - n := by unfold wrap64; omega
  have hw' : IntKind.i64.wrap (t - n) = t - n := by rw [IntKind.wrap_i64]; omega
  have hd' : 64 ≤ t - n := by omega
  clear h t0 t1 hm hd
  go_enter Try.func11, Try.ntmps11
  go_wp2
  go_ret2
  exact ⟨rfl, rfl⟩
set_option maxRecDepth 100000 in
theorem dFresh_in {p : Nat} {t n : Int} {v : Value} {l : List Int} {w : World} (h : Dv w p t v l) (t0 : 0 ≤ t) (t1 : t ≤ 9223372036854775807) (h1 : ¬ n < 1) (hm : n ≤ 9223372036854775807) (hd : t - n < 64) (hl : l.length ≤ 300) (hc : l.contains n = true) :
    Calls Try.prog 11 #[.pointer (some ⟨p, 0, none⟩), .int .i64 n] w fun e w' => e = .returned (.tuple #[.bool false, .int .i64 0]) ∧ w' = w := by
  have HC : Hid (l.contains n = true) := hc
  clear hc
  obtain ⟨ao, cap, rfl⟩ := h.own.shape
  have c0 : w.cell? ⟨p, 0, none⟩ = some (.int .i64 t) := by simp [World.cell?, h.blk]
  have c1 : w.cell? ⟨p, 1, none⟩ = some (.slice ao l.length cap) := by simp [World.cell?, h.blk]
  have hw : wrap64 (t - n) = t - n := by unfold wrap64; omega
  have hw' : IntKind.i64.wrap (t - n) = t - n := by rw [IntKind.wrap_i64]; omega
  have hd' : ¬ 64 ≤ t - n := by omega
  have hll : (l.length : Int) ≤ 300 := by omega
  have HO : Hid (Dv w p t (.slice ao l.length cap) l) := h
  obtain ⟨ao', cap', e', g1, g2, g3, g4⟩ := h.own.sl
  simp only [Value.slice.injEq, true_and] at e'
  obtain ⟨rfl, rfl⟩ := e'
  clear h t0 t1 hm hd hl g1 g2 g3
  have G4 : Hid (l ≠ [] → ∃ b off, ao = some ⟨b, off, none⟩ ∧ ∀ j, j < l.length → w.cell? ⟨b, off + j, none⟩ = some (.int .i64 (l.getD j 0))) := g4
  clear g4
  go_enter Try.func11, Try.ntmps11
  go_wp2
  go_loopw [6] (fun i wr => ∃ k : Nat, i = .int .i64 k ∧ k ≤ l.length ∧ wr = w ∧ Hid ((l.take k).contains n = false)) (fun i _ => l.length - (intOf i).toNat)
  case atStart => exact ⟨0, rfl, by omega, rfl, by simp [Hid]⟩
  case round =>
    obtain ⟨k, rfl, hk, rfl, hno⟩ := hrel
    by_cases hlt : k < l.length
    · have hkl : (k : Int) < (l.length : Int) := by omega
      obtain ⟨b, off, rfl, hc⟩ := G4.out (by rintro rfl; simp at hlt)
      have ck := hc k hlt
      clear hc G4
      by_cases e : l.getD k 0 = n
      · rw [e] at ck
        clear e
        go_wp2
        go_ret2
        exact ⟨rfl, rfl⟩
      · have E : Hid ((l.take (k + 1)).contains n = false) := by
          have h3 := hno.out
          show _ = _
          rw [List.take_add_one]
          rw [List.getD_eq_getElem?_getD, List.getElem?_eq_getElem hlt] at e
          simp only [Option.getD_some] at e
          simp only [List.getElem?_eq_getElem hlt, Option.toList_some]
          simp only [List.contains_eq_mem, List.mem_append, List.mem_singleton, decide_eq_false_iff_not, not_or] at h3 ⊢
          exact ⟨h3, fun e' => e e'.symm⟩
        have e2 : (l.getD k 0 == n) = false := by simpa using e
        generalize l.getD k 0 = y at *
        clear e hno
        go_wp2
        go_roundw
        case rel => exact ⟨k + 1, by go_num, by omega, trivial, E⟩
        case measure => simp [intOf]; omega
    · obtain rfl : k = l.length := by omega
      have E : Hid (l.contains n = false) := by have := hno.out; rwa [List.take_length] at this
      exact absurd E.out (by rw [HC.out]; simp)
set_option maxRecDepth 100000 in
theorem dFresh_new {p : Nat} {t n : Int} {v : Value} {l : List Int} {w : World} (h : Dv w p t v l) (t0 : 0 ≤ t) (t1 : t ≤ 9223372036854775807) (h1 : ¬ n < 1) (hm : n ≤ 9223372036854775807) (hd : t - n < 64) (hl : l.length ≤ 300) (hc : l.contains n = false) :
    Calls Try.prog 11 #[.pointer (some ⟨p, 0, none⟩), .int .i64 n] w fun e w' => e = .returned (.tuple #[.bool true, .int .i64 0]) ∧ ∃ v', Dv w' p (max t n) v' (l ++ [n]) ∧ Mod (fun i => i = p ∨ v.ownBlock = some i) w w' ∧ Fr w v v' := by
  have HC : Hid (l.contains n = false) := hc
  clear hc
  obtain ⟨i0, hi, hz0, hz1, hz2⟩ := info_parts infoInt
  obtain ⟨ao, cap, rfl⟩ := h.own.shape
  have c0 : w.cell? ⟨p, 0, none⟩ = some (.int .i64 t) := by simp [World.cell?, h.blk]
  have c1 : w.cell? ⟨p, 1, none⟩ = some (.slice ao l.length cap) := by simp [World.cell?, h.blk]
  have hw : wrap64 (t - n) = t - n := by unfold wrap64; omega
  have hw' : IntKind.i64.wrap (t - n) = t - n := by rw [IntKind.wrap_i64]; omega
  have hd' : ¬ 64 ≤ t - n := by omega
  have hll : (l.length : Int) ≤ 300 := by omega
  have HO : Hid (Dv w p t (.slice ao l.length cap) l) := h
  obtain ⟨ao', cap', e', g1, g2, g3, g4⟩ := h.own.sl
  simp only [Value.slice.injEq, true_and] at e'
  obtain ⟨rfl, rfl⟩ := e'
  clear h t0 t1 hm hd hl g1 g2 g3
  have G4 : Hid (l ≠ [] → ∃ b off, ao = some ⟨b, off, none⟩ ∧ ∀ j, j < l.length → w.cell? ⟨b, off + j, none⟩ = some (.int .i64 (l.getD j 0))) := g4
  clear g4
  go_enter Try.func11, Try.ntmps11
  go_wp2
  go_loopw [6] (fun i wr => ∃ k : Nat, i = .int .i64 k ∧ k ≤ l.length ∧ wr = w ∧ Hid ((l.take k).contains n = false)) (fun i _ => l.length - (intOf i).toNat)
  case atStart => exact ⟨0, rfl, by omega, rfl, by simp [Hid]⟩
  case round =>
    obtain ⟨k, rfl, hk, rfl, hno⟩ := hrel
    by_cases hlt : k < l.length
    · have hkl : (k : Int) < (l.length : Int) := by omega
      obtain ⟨b, off, rfl, hc⟩ := G4.out (by rintro rfl; simp at hlt)
      have ck := hc k hlt
      clear hc G4
      by_cases e : l.getD k 0 = n
      · have hin : n ∈ l := by
          rw [← e, List.getD_eq_getElem?_getD, List.getElem?_eq_getElem hlt]
          exact List.getElem_mem hlt
        exact absurd HC.out (by simp [hin])
      · have E : Hid ((l.take (k + 1)).contains n = false) := by
          have h3 := hno.out
          show _ = _
          rw [List.take_add_one]
          rw [List.getD_eq_getElem?_getD, List.getElem?_eq_getElem hlt] at e
          simp only [Option.getD_some] at e
          simp only [List.getElem?_eq_getElem hlt, Option.toList_some]
          simp only [List.contains_eq_mem, List.mem_append, List.mem_singleton, decide_eq_false_iff_not, not_or] at h3 ⊢
          exact ⟨h3, fun e' => e e'.symm⟩
        have e2 : (l.getD k 0 == n) = false := by simpa using e
        generalize l.getD k 0 = y at *
        clear e hno
        go_wp2
        go_roundw
        case rel => exact ⟨k + 1, by go_num, by omega, trivial, E⟩
        case measure => simp [intOf]; omega
    · obtain rfl : k = l.length := by omega
      have E : Hid (l.contains n = false) := by have := hno.out; rwa [List.take_length] at this
      clear hno G4 hlt hk
      go_wp2_with (at_builtin; refine wpList_append_lies _ rfl _ _ 22 rfl 0 3 i0 (.int .i64 0) 1 8 Try.underlying22 hi hz0 hz1 hz2 rfl (by decide) (.slice ao l.length cap) l.length (U l) rfl (HO.out.own.mod ((Mod.refl (fun _ => False) _).alloc _) (fun _ _ h => h)) ⟨wr.heap.size, 0, none⟩ 1 1 [.int .i64 n] rfl rfl (app1 _ _ _) (U_one [n]) (by omega) (by simp only [maxLen]; omega) (by omega) (Nat.zero_le _) (wr.heap.size + 1) (by simp) ?_; intro g cap1 w3 hown1 hgrow hg hlt; have m3 : Mod (fun k => (Value.slice ao l.length cap).ownBlock = some k) wr w3 := ((Mod.refl _ wr).alloc _).grown hgrow (fun k hk _ => hk); have B3 : Hid (w3.heap[p]? = some (.cells #[.int .i64 t, .slice ao l.length cap] 39 (0, 0))) := m3.obj HO.out.blk (fun e => HO.out.far _ e rfl); have f1 : w3.frozen? ⟨p, 1, none⟩ = false := by { simp [World.frozen?, B3.out] }; have f0 : w3.frozen? ⟨p, 0, none⟩ = false := by { simp [World.frozen?, B3.out] }; have c03 : w3.cell? ⟨p, 0, none⟩ = some (.int .i64 t) := by { simp [World.cell?, B3.out] }; have c13 : w3.cell? ⟨p, 1, none⟩ = some (.slice ao l.length cap) := by { simp [World.cell?, B3.out] })
      all_goals
        have hgp : g ≠ p := by
          rcases hg with h3 | h3
          · exact HO.out.far _ h3
          · have := lt_of_block HO.out.blk
            omega
        have O3 : Own w3 (.slice (some ⟨g, 0, none⟩) (l.length + 1) cap1) (l ++ [n]) := by
          unfold Own
          rw [U_app]
          simpa [U] using hown1
        have hfr : Fr wr (.slice ao l.length cap) (.slice (some ⟨g, 0, none⟩) (l.length + 1) cap1) := by
          intro g' hg'
          simp only [Value.ownBlock, Option.some.injEq] at hg'
          subst hg'
          rcases hg with h3 | h3
          · exact .inl h3
          · exact .inr (by omega)
        have key : ∀ u : Int, Dv ((w3.setCell ⟨p, 1, none⟩ (.slice (some ⟨g, 0, none⟩) (l.length + 1) cap1)).setCell ⟨p, 0, none⟩ (.int .i64 u)) p u (.slice (some ⟨g, 0, none⟩) (l.length + 1) cap1) (l ++ [n]) ∧ Mod (fun i => i = p ∨ (Value.slice ao l.length cap).ownBlock = some i) wr ((w3.setCell ⟨p, 1, none⟩ (.slice (some ⟨g, 0, none⟩) (l.length + 1) cap1)).setCell ⟨p, 0, none⟩ (.int .i64 u)) := fun u => by
          have B4 := (set_two B3.out (.slice (some ⟨g, 0, none⟩) (l.length + 1) cap1)).2
          have B5 := (set_two B4 (.int .i64 u)).1
          have m5 : Mod (fun i => i = p) w3 ((w3.setCell ⟨p, 1, none⟩ (.slice (some ⟨g, 0, none⟩) (l.length + 1) cap1)).setCell ⟨p, 0, none⟩ (.int .i64 u)) := ((Mod.refl (fun i => i = p) _).setCell _ _ (.inl rfl)).setCell _ _ (.inl rfl)
          refine ⟨⟨B5, O3.mod m5 ?_, ?_⟩, m3.trans m5 (fun _ _ h => .inr h) (fun _ _ h => .inl h)⟩
          all_goals
            intro g' hg'
            simp only [Value.ownBlock, Option.some.injEq] at hg'
            subst hg'
            exact hgp
        clear hown1 hgrow hg hlt B3 f1 f0 c03 c13 m3 O3 hgp
        go_ret2
        first
          | (have hx : max t n = n := by omega)
          | (have hx : max t n = t := by omega)
        rw [hx]
        exact ⟨rfl, _, (key _).1, (key _).2, hfr⟩
end Go.Proofs.Ytcohfhnollnefaa
