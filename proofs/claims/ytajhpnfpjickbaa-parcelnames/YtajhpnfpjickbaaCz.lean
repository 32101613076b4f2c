/- Contracts of CopyBytes and of parcel's Charts. Conditions: sizes that a slice of bytes has. -/
import Derived.Test.YtajhpnfpjickbaaCw
namespace Go.Proofs.Ytajhpnfpjickbaa
open Go.RowKit
theorem copy_any (v : Value) (l : List Int) (w : World) (hs : Sl w v l) (hb : l.length ≤ 140737488355328) :
    Calls Try.prog 20 #[v] w fun e w' => ∃ v', e = .returned v' ∧ Own w' v' l ∧ Mod (fun _ => False) w w' ∧ (∀ g, v'.ownBlock = some g → w.heap.size ≤ g) := by
  obtain ⟨i0, hi, hz0, hz1, hz2⟩ := info_parts info5
  obtain ⟨ao, cap, rfl, h1, h2, h3, h4⟩ := hs.form
  cases ao with
  | none =>
    obtain rfl := h3 rfl
    obtain rfl : l = [] := List.eq_nil_of_length_eq_zero (by omega)
    go_enter Try.func20, Try.ntmps20
    go_wp2
    go_ret
    exact ⟨_, rfl, Own.nil _, Mod.refl _ _, by intro g hg; simp [Value.ownBlock] at hg⟩
  | some a =>
    have hcells : ∀ j u, (U l)[j]? = some u → w.cell? (a.add j) = some u := fun j u hu => by
      by_cases hl : l = []
      · subst hl; simp [U] at hu
      · obtain ⟨b, off, e, hc⟩ := h4 hl
        cases e
        exact cells_of hc j u hu
    clear h4
    go_enter Try.func20, Try.ntmps20
    go_wp2_with (at_builtin; refine wpList_append_own_at _ rfl _ _ 26 rfl 0 5 i0 (.int .u8 0) 1 1 Try.underlying26 hi hz0 hz1 hz2 rfl (by decide) (.slice none 0 0) 0 [] rfl (World.ownsRow_nil _ _ _ _) a l.length cap (U l) rfl (by simp [U]) hcells (U_one l) (by simp only [maxLen]; omega) (by omega) (Nat.zero_le _) ?_; intro v2 w2 hown2 hgrow hnil hat; simp only [Nat.zero_add, List.nil_append] at hown2)
    go_ret
    refine ⟨v2, rfl, hown2, (Mod.refl _ w).grown hgrow (by intro k hk; simp [Value.ownBlock] at hk), ?_⟩
    intro g hg
    rcases hat with h | h
    · rw [h] at hg; simp [Value.ownBlock] at hg
    · rw [h] at hg; simp at hg; omega

theorem take_snoc' {l : List Pl} {k : Nat} {p : Pl} (h : l[k]? = some p) : l.take (k + 1) = l.take k ++ [p] := by
  have hk : k < l.length := (List.getElem?_eq_some_iff.1 h).1
  rw [List.take_succ_eq_append_getElem hk]
  congr 1
  rw [List.getElem?_eq_getElem hk] at h
  rw [Option.some.inj h]
theorem pls_snoc : ∀ (l : List Pl) (p : Pl), pls (l ++ [p]) = pls l ++ packs p.n4
  | [], p => by simp [pls]
  | q :: l, p => by simp [pls, pls_snoc l p]
theorem pls_len' : ∀ l : List Pl, (pls l).length ≤ 32 * l.length
  | [] => by simp [pls]
  | p :: l => by
    have h1 := packs_len p.n4
    have h2 := pls_len' l
    have h3 : p.n4.length = 4 := rfl
    simp only [pls, List.length_append, List.length_cons]
    omega
set_option maxRecDepth 100000 in
set_option maxHeartbeats 2000000 in
theorem Charts (v : Value) (l : List Pl) (w : World) (hs : SlP w v l) :
    Calls Try.prog 26 #[v] w fun e w' => ∃ v1, e = .returned (.tuple #[v1, .int .i64 (chE l)]) ∧ Mod (fun _ => False) w w' ∧
      (chE l = 0 → Own w' v1 (pkl l) ∧ (∀ g, v1.ownBlock = some g → w.heap.size ≤ g)) ∧ (chE l ≠ 0 → v1 = .slice none 0 0) := by
  have HA := fun W h => areHeld v l W h
  obtain ⟨ao, cap, rfl, h1, h2, h3, h4⟩ := hs.form
  unfold maxLen at h2
  unfold chE
  by_cases hl : 4 < l.length
  · rw [if_pos hl]
    go_enter Try.func26, Try.ntmps26
    go_wp2
    go_ret2
    exact ⟨_, rfl, Mod.refl _ _, fun h => absurd h (by decide), fun _ => rfl⟩
  · rw [if_neg hl]
    cases hh : held 0 l with
    | false =>
      rw [hh] at HA
      rw [if_neg (by decide)]
      go_enter Try.func26, Try.ntmps26
      go_wp2_with (fail)
      refine (HA _ hs).mono ?_
      rintro e w1 ⟨rfl, hm1⟩
      go_wp2
      go_ret2
      exact ⟨_, rfl, hm1, fun h => absurd h (by decide), fun _ => rfl⟩
    | true =>
      rw [hh] at HA
      rw [if_pos rfl]
      have hnum := held_nums l 0 (by omega) hh
      clear hh
      have hl4 : l.length ≤ 4 := by omega
      clear hl
      have hpk : pkl l = packs [(l.length : Int)] ++ pls (l.take l.length) := by rw [List.take_length]; rfl
      rw [hpk]
      clear hpk
      have hNL : Nums [(l.length : Int)] := by intro x hx; simp only [List.mem_singleton] at hx; omega
      have hl1 : (packs [(l.length : Int)]).length ≤ 8 := packs_len [(l.length : Int)]
      obtain ⟨Q, hQ⟩ : ∃ Q, packs [(l.length : Int)] = Q := ⟨_, rfl⟩
      rw [hQ] at hl1
      rw [hQ]
      have HQ : Hid (packs [(l.length : Int)] = Q) := hQ
      clear hQ
      go_enter Try.func26, Try.ntmps26
      go_wp2_with (fail)
      refine (HA _ hs).mono ?_
      rintro e w1 ⟨rfl, hm1⟩
      go_wp2_with (fail)
      refine (write_any _).mono ?_
      rintro e w2 ⟨rfl, hw2, hm2⟩
      have hA2 := hm1.trans hm2 (V := fun _ => False) (fun _ _ h => h) (fun _ _ h => h)
      have hp2 := lt_of_block hw2.blk
      have hw12 := hm1.size
      go_wp2_with (fail)
      have hM3 := (Mod.refl (fun _ => False) w2).alloc (.cells #[.int .i64 (l.length : Int)] 3)
      refine (put_all w1.heap.size (.slice none 0 0) [] [(l.length : Int)] w2.heap.size 0 1 (w2.alloc (.cells #[.int .i64 (l.length : Int)] 3)) (hw2.mod hM3 (fun h => h) (fun _ _ h => h)) hNL (by omega) (by simp [Value.ownBlock]) (ints_new w2 [(l.length : Int)]) (by simp) (by simp)).mono ?_
      rintro e w3 ⟨rfl, v3, hw3, hm3, hf3⟩
      have hA3 : Mod (fun _ => False) w w3 := (hA2.alloc _).trans hm3 (fun _ _ h => h) (by rintro q hq (h | h); omega; simp [Value.ownBlock] at h)
      have hfr3 : ∀ g, v3.ownBlock = some g → w1.heap.size ≤ g := hf3.fresh (w := w1) (by intro g hg; simp [Value.ownBlock] at hg) (by have := hM3.size; omega)
      rw [List.nil_append, HQ.out] at hw3
      clear hw2 hm2 hm3 hf3 hM3 hA2 hNL HA
      go_wp2
      go_loopw [23] (fun i wr => ∃ (j : Nat) (v' : Value), i = .int .i64 j ∧ j ≤ l.length ∧ Wr wr w1.heap.size v' (Q ++ pls (l.take j)) ∧ Mod (fun _ => False) w wr ∧ (∀ g, v'.ownBlock = some g → w1.heap.size ≤ g)) (fun i _ => l.length - (intOf i).toNat)
      case atStart => exact ⟨0, v3, rfl, by omega, by simpa [pls] using hw3, hA3, hfr3⟩
      case round =>
        obtain ⟨j, v', rfl, hj, hw, hm, hfr⟩ := hrel
        clear hw3 hA3 hfr3
        have hpw := lt_of_block hw.blk
        have hvw := hw.own.lt
        by_cases hlt : j < l.length
        · obtain ⟨b, off, rfl, hc⟩ := h4 (by rintro rfl; simp at hlt)
          obtain ⟨pp, hp⟩ : ∃ p, l[j]? = some p := ⟨l[j], by simp [hlt]⟩
          obtain ⟨c0, c1, c2, c3⟩ := (hc j pp hp).mod hm (fun h => h)
          have hn4 := (hnum pp (List.mem_of_getElem? hp)).1
          have HT : Hid (l.take (j + 1) = l.take j ++ [pp]) := take_snoc' hp
          have hlt2 : (pls (l.take j)).length ≤ 32 * 4 := by
            have := pls_len' (l.take j)
            rw [List.length_take] at this
            omega
          have hQl : (Q ++ pls (l.take j)).length ≤ 200 := by rw [List.length_append]; omega
          obtain ⟨r1, q1, p1, m1⟩ := pp
          dsimp only at c0 c1 c2 c3
          have N4 : Nums [r1, q1, p1, m1] := hn4
          have HPK : Hid (pls (l.take (j + 1)) = pls (l.take j) ++ packs [r1, q1, p1, m1]) := by
            show _ = _
            rw [HT.out, pls_snoc]
            rfl
          generalize pls (l.take j) = Q2 at hw HPK hQl
          have hl4' : (packs [r1, q1, p1, m1]).length ≤ 32 := packs_len [r1, q1, p1, m1]
          generalize hq4 : Q ++ Q2 = Q4 at hw hQl
          have HQ4 : Hid (Q ++ Q2 = Q4) := hq4
          clear hq4 HT hn4 hc hlt2 hp
          have hD := ((Mod.refl (fun _ => False) wr).alloc (.cells #[.int .i64 r1, .int .i64 q1, .int .i64 p1, .int .i64 m1] 58)).alloc (.cells #[.int .i64 r1, .int .i64 q1, .int .i64 p1, .int .i64 m1] 3)
          have hmD := (hm.alloc (.cells #[.int .i64 r1, .int .i64 q1, .int .i64 p1, .int .i64 m1] 58)).alloc (.cells #[.int .i64 r1, .int .i64 q1, .int .i64 p1, .int .i64 m1] 3)
          have hsD : ((wr.alloc (.cells #[.int .i64 r1, .int .i64 q1, .int .i64 p1, .int .i64 m1] 58)).alloc (.cells #[.int .i64 r1, .int .i64 q1, .int .i64 p1, .int .i64 m1] 3)).heap.size = wr.heap.size + 1 + 1 := by simp
          have hin : ∀ j, j < [r1, q1, p1, m1].length → ((wr.alloc (.cells #[.int .i64 r1, .int .i64 q1, .int .i64 p1, .int .i64 m1] 58)).alloc (.cells #[.int .i64 r1, .int .i64 q1, .int .i64 p1, .int .i64 m1] 3)).cell? ⟨wr.heap.size + 1, 0 + j, none⟩ = some (.int .i64 ([r1, q1, p1, m1].getD j 0)) := by
            have := ints_new (wr.alloc (.cells #[.int .i64 r1, .int .i64 q1, .int .i64 p1, .int .i64 m1] 58)) [r1, q1, p1, m1]
            rw [show (wr.alloc (.cells #[.int .i64 r1, .int .i64 q1, .int .i64 p1, .int .i64 m1] 58)).heap.size = wr.heap.size + 1 from by simp] at this
            exact this
          have HPU := put_all w1.heap.size v' Q4 [r1, q1, p1, m1] (wr.heap.size + 1) 0 4 _ (hw.mod hD (fun h => h) (fun _ _ h => h)) N4 (by omega) (fun e => by have := hvw _ e; omega) hin (by simp; omega) (by simp)
          clear hin hD
          go_wp2_with (fail)
          refine HPU.mono ?_
          rintro e w5 ⟨rfl, v5, hw5, hm5, hf5⟩
          have hA5 : Mod (fun _ => False) w w5 := hmD.trans hm5 (fun _ _ h => h) (by rintro q hq (h | h); omega; have := hfr q h; omega)
          have hfr5 : ∀ g, v5.ownBlock = some g → w1.heap.size ≤ g := hf5.fresh (w := w1) hfr (by omega)
          clear HPU hm5 hf5 hmD
          go_wp2
          go_roundw
          case rel => exact ⟨j + 1, v5, by go_num, by omega, by rw [HPK.out, ← List.append_assoc, HQ4.out]; exact hw5, hA5, hfr5⟩
          case measure => simp [intOf]; omega
        · obtain rfl : j = l.length := by omega
          have hlb : (Q ++ pls (l.take l.length)).length ≤ 140737488355328 := by
            have := pls_len' (l.take l.length)
            rw [List.length_take] at this
            rw [List.length_append]
            omega
          obtain ⟨QQ, hQQ⟩ : ∃ QQ, Q ++ pls (l.take l.length) = QQ := ⟨_, rfl⟩
          rw [hQQ] at hw hlb
          have HQQ : Hid (Q ++ pls (l.take l.length) = QQ) := hQQ
          clear hQQ
          clear h4
          go_wp2_with (fail)
          refine (Bytes_any w1.heap.size v' QQ _ hw hlb).mono ?_
          rintro e w6 ⟨v6, rfl, ho6, hm6, hf6⟩
          go_wp2
          go_ret2
          exact ⟨_, rfl, hm.trans hm6 (V := fun _ => False) (fun _ _ h => h) (fun _ _ h => h), fun _ => ⟨by rw [HQQ.out]; exact ho6, fun g hg => by have := hf6 g hg; have := hm.size; omega⟩, fun h => absurd rfl h⟩
end Go.Proofs.Ytajhpnfpjickbaa
