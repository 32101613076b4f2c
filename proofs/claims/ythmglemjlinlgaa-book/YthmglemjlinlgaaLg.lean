/- The document's lane: what Take, Flip, Cut and Reaches answer, and what they leave. Conditions: at most 4096 datagrams. -/
import Derived.Test.YthmglemjlinlgaaLf
import Derived.Test.YthmglemjlinlgaaLt
import Derived.Deep.RegionWith
namespace Go.Proofs.Ythmglemjlinlgaa
open Go.RowKit
theorem dTake_any {p : Nat} {L : List Dg} {a : List Bool} {F : Nat → Prop} {i : Int} {w : World} (h : Da w p L a F) (hlm : L.length ≤ 4096) : Calls Try.prog 14 #[.pointer (some ⟨p, 0, none⟩), .int .i64 i] w fun e w' => ∃ u F', e = .returned (.tuple #[.agg #[.int .i64 (tD L i).f, .int .i64 (tD L i).t, u], .int .i64 (tE L i)]) ∧ Da w' p (tL L i) a F' ∧ Gone w w' F F' ∧ Tk w' u (tD L i) F F' := by
  obtain ⟨v, R, h, e, rfl⟩ := h
  have hl : R.length = L.length := by rw [← e]; simp
  unfold tE tL tD
  by_cases hi : i < 0 ∨ (L.length : Int) ≤ i
  · rw [if_pos hi, if_pos hi, if_pos hi]
    refine (dTake_bad h (by rw [hl]; exact hi)).mono ?_
    rintro e' w' ⟨rfl, hm⟩
    exact ⟨_, _, rfl, ⟨v, R, h.mod hm (fun _ _ h => h), e, rfl⟩, Gone.none hm, Own.nil _, ⟨by simp, by simp⟩, by simp [Value.ownBlock]⟩
  · rw [if_neg hi, if_neg hi, if_neg hi]
    obtain ⟨k, rfl⟩ : ∃ k : Nat, i = k := ⟨i.toNat, by omega⟩
    have hk : k < R.length := by omega
    have hx : R[k]? = some R[k] := by simp [hk]
    have hd := getD_of e hx
    rw [Int.toNat_natCast, hd]
    refine (dTake_ok h hk hx (by omega)).mono ?_
    rintro e' w' ⟨rfl, v2, hL, hm, hv⟩
    have hmem := List.mem_of_getElem? hx
    have ho := h.gr.own _ hmem
    have hin : ∀ g, (R[k]).2.ownBlock = some g → Ft v R g := fun g hg => .inr ⟨_, List.mem_map_of_mem hmem, hg⟩
    refine ⟨_, _, rfl, ⟨v2, _, hL, ?_, rfl⟩, ⟨hm.mono fun j _ hj => .inl hj, fun j hj => ?_⟩, ho.1.mod hm (fun g hg hp => ?_), ho.2, fun g hg => ⟨.inr (hin g hg), fun hp => ?_⟩⟩
    · rw [map_eraseIdx', e]
    · rcases hj with rfl | hj | hj
      · exact .inl (.inl rfl)
      · exact .inr (hv j hj)
      · exact .inl (.inr (Ft.out hj))
    · exact h.far (hp ▸ hin _ hg)
    · rcases hp with rfl | hp
      · exact h.far (hin _ hg)
      · exact h.gr.gone (v2 := v2) hx (fun g' hg' => .inr (hv g' hg')) g hg hp
theorem set_side {w : World} {p : Nat} {v : Value} {R : List (Dg × Value)} {a : List Bool} (h : Dn w p v R a) {n : Nat} (x : Bool) : Dn (w.setCell ⟨p, 1 + n, none⟩ (.bool x)) p v R (a.set n x) := by
  have hm : Mod (fun k => k = p) w (w.setCell ⟨p, 1 + n, none⟩ (.bool x)) := (Mod.refl _ w).setCell _ _ (.inl rfl)
  refine ⟨?_, by simpa using h.len, h.gr.mod hm fun k hk e => h.far (e ▸ hk)⟩
  simp [World.setCell, Array.getElem?_modify, h.blk, Nat.add_comm 1 n, List.map_set]
theorem side_step (s : Int) (a : List Bool) (ha : a.length = 9) (n : Nat) (hn : n < 9) : ((side s).take n ++ a.drop n).set n (sd s n) = (side s).take (n + 1) ++ a.drop (n + 1) := by
  have hl : (side s).length = 9 := by simp [side]
  apply List.ext_getElem?
  intro j
  rw [List.getElem?_set]
  have hlen : ((side s).take n).length = n := by rw [List.length_take]; omega
  have hlen1 : ((side s).take (n + 1)).length = n + 1 := by rw [List.length_take]; omega
  by_cases e : n = j
  · subst e
    rw [if_pos rfl, if_pos (by rw [List.length_append, hlen, List.length_drop]; omega), List.getElem?_append_left (by omega), List.getElem?_take, if_pos (by omega)]
    simp [side, hn]
  · rw [if_neg e]
    rcases Nat.lt_or_gt_of_ne e with h | h
    · rw [List.getElem?_append_right (by omega), List.getElem?_append_right (by omega), hlen, hlen1, List.getElem?_drop, List.getElem?_drop]
      congr 1
      omega
    · rw [List.getElem?_append_left (by omega), List.getElem?_append_left (by omega), List.getElem?_take, List.getElem?_take, if_pos (by omega), if_pos (by omega)]
set_option maxRecDepth 100000 in
set_option maxHeartbeats 1000000 in
theorem dCut_any {p : Nat} {L : List Dg} {a : List Bool} {F : Nat → Prop} {w : World} (h : Da w p L a F) (s : Int) : Calls Try.prog 21 #[.pointer (some ⟨p, 0, none⟩), .int .i64 s] w fun e w' => e = .returned (.int .i64 0) ∧ Da w' p L (side s) F ∧ Mod F w w' := by
  obtain ⟨v, R, h, rfl, rfl⟩ := h
  have hlen := h.len
  go_enter Try.func21, Try.ntmps21
  go_wp2
  go_loopw [5, 6] (fun z i wr => ∃ (n : Nat), z = .int .i64 ((2 ^ n : Nat) : Int) ∧ i = .int .i64 n ∧ n ≤ 9 ∧ Hid (Dn wr p v R ((side s).take n ++ a.drop n)) ∧ Hid (Mod (fun k => k = p) w wr)) (fun _ i _ => 9 - (intOf i).toNat)
  case atStart => exact ⟨0, by go_num, rfl, by omega, (by simpa using h : Dn w p v R ((side s).take 0 ++ a.drop 0)), Mod.refl _ _⟩
  case round =>
    obtain ⟨n, rfl, rfl, hn, hD, hM⟩ := hrel
    clear h
    by_cases hlt : n < 9
    · have hb := sd_eq s n (by omega)
      have hp : 2 ^ n ≤ 256 := by
        have : 2 ^ n ≤ 2 ^ 8 := Nat.pow_le_pow_right (by omega) (by omega)
        omega
      have c1 := hD.out.cs hlt
      have z1 := hD.out.f (1 + n)
      have hi : (n : Int) < 9 := by omega
      have HD := set_side hD.out (n := n) (sd s n)
      rw [side_step s a hlen n hlt] at HD
      have HD1 : Hid (Dn _ _ _ _ _) := HD
      have HM : Hid (Mod (fun k => k = p) w (wr.setCell ⟨p, 1 + n, none⟩ (.bool (sd s n)))) := hM.out.setCell _ _ (.inl rfl)
      have hpow : 2 ^ (n + 1) = 2 ^ n * 2 := Nat.pow_succ 2 n
      have HP : Hid (2 ^ (n + 1) = 2 ^ n * 2) := hpow
      clear hD HD hM hpow
      generalize 2 ^ n = P at *
      generalize sd s n = x at *
      generalize List.getD _ n false = y at c1
      go_wp2
      go_roundw
      case rel => exact ⟨n + 1, by rw [HP.out]; go_num, by go_num, by omega, HD1, HM⟩
      case measure => simp [intOf]; omega
    · obtain rfl : n = 9 := by omega
      have hD' : Dn wr p v R (side s) := by
        have := hD.out
        rwa [List.drop_eq_nil_of_le (by omega), List.append_nil, List.take_of_length_le (by simp [side])] at this
      have HD : Hid (Dn wr p v R (side s)) := hD'
      clear hD hD'
      go_wp2
      go_ret
      exact ⟨rfl, ⟨v, R, HD.out, rfl, rfl⟩, hM.out.mono fun k _ e => .inl e⟩
set_option maxRecDepth 100000 in
set_option maxHeartbeats 1000000 in
theorem dReaches_c (p : Nat) (x y : Bool) (a b : Nat) (w : World) (c1 : w.cell? ⟨p, 1 + a, none⟩ = some (.bool x)) (c2 : w.cell? ⟨p, 1 + b, none⟩ = some (.bool y)) (ha : nd a = true) (hb : nd b = true) (ha9 : (a : Int) < 9) (hb9 : (b : Int) < 9) : Calls Try.prog 25 #[.pointer (some ⟨p, 0, none⟩), .int .i64 a, .int .i64 b] w fun e w' => e = .returned (.bool (x == y)) ∧ Mod (fun _ => False) w w' := by
  have hX := dnode a
  have hY := dnode b
  rw [ha] at hX
  rw [hb] at hY
  clear ha hb
  go_enter Try.func25, Try.ntmps25
  go_wp2
  go_quiet (first | (go_at_call_of 32 a; exact Calls.quiet_of_same (hX _)) | (go_at_call_of 32 b; exact Calls.quiet_of_same (hY _)))
  go_wp2
  go_ret
  exact ⟨rfl, (Mod.refl _ w).drewN _⟩
set_option maxRecDepth 100000 in
set_option maxHeartbeats 1000000 in
theorem dReaches_no (p : Nat) (a b : Int) (w : World) (h : (nd a && nd b) = false) : Calls Try.prog 25 #[.pointer (some ⟨p, 0, none⟩), .int .i64 a, .int .i64 b] w fun e w' => e = .returned (.bool false) ∧ Mod (fun _ => False) w w' := by
  have hX := dnode a
  have hY := dnode b
  cases ha : nd a with
  | false =>
    rw [ha] at hX
    clear h ha hY
    go_enter Try.func25, Try.ntmps25
    go_wp2
    go_quiet (first | (go_at_call 32; exact Calls.quiet_of_same (hX _)))
    go_wp2
    go_ret
    exact ⟨rfl, (Mod.refl _ w).drewN _⟩
  | true =>
    have hb : nd b = false := by rw [ha] at h; simpa using h
    rw [ha] at hX
    rw [hb] at hY
    clear h ha hb
    go_enter Try.func25, Try.ntmps25
    go_wp2
    go_quiet (first | (go_at_call_of 32 a; exact Calls.quiet_of_same (hX _)) | (go_at_call_of 32 b; exact Calls.quiet_of_same (hY _)))
    go_wp2
    go_ret
    exact ⟨rfl, (Mod.refl _ w).drewN _⟩
theorem dReaches_any {p : Nat} {L : List Dg} {s : Int} {F : Nat → Prop} {w : World} (h : Da w p L (side s) F) (a b : Int) : Calls Try.prog 25 #[.pointer (some ⟨p, 0, none⟩), .int .i64 a, .int .i64 b] w fun e w' => e = .returned (.bool (rc s a b)) ∧ Mod (fun _ => False) w w' := by
  obtain ⟨v, R, h, _, _⟩ := h
  unfold rc
  cases hab : nd a && nd b with
  | false => exact dReaches_no p a b w hab
  | true =>
    rw [Bool.and_eq_true] at hab
    obtain ⟨x, rfl, _, hx⟩ := nd_nat hab.1
    obtain ⟨y, rfl, _, hy⟩ := nd_nat hab.2
    have e : (true && (bt s (x : Int) == bt s (y : Int))) = ((side s).getD x false == (side s).getD y false) := by
      rw [bt_sd s x y hx hy, side_get s x hx, side_get s y hy, Bool.true_and]
    rw [e]
    exact dReaches_c p _ _ x y w (h.cs (by omega)) (h.cs (by omega)) hab.1 hab.2 (by omega) (by omega)
set_option maxRecDepth 100000 in
set_option maxHeartbeats 1000000 in
theorem dFlip_place {p : Nat} {v : Value} {R : List (Dg × Value)} {a : List Bool} {i t : Int} {w : World} (h : Dn w p v R a) (hi : i < 0 ∨ (R.length : Int) ≤ i) : Calls Try.prog 19 #[.pointer (some ⟨p, 0, none⟩), .int .i64 i, .int .i64 t] w fun e w' => e = .returned (.int .i64 9) ∧ w' = w := by
  have hN := has_any (i := i) h
  rw [decide_eq_false (fun hn => hn hi)] at hN
  clear h hi
  go_enter Try.func19, Try.ntmps19
  go_wp2_with (go_at_call 34; refine hN.mono ?_; rintro e w' ⟨rfl, rfl⟩)
  go_ret
  exact ⟨rfl, rfl⟩
set_option maxRecDepth 100000 in
set_option maxHeartbeats 1000000 in
theorem dFlip_bit {p : Nat} {v : Value} {R : List (Dg × Value)} {a : List Bool} {t : Int} {i : Nat} {w : World} (h : Dn w p v R a) (hi : i < R.length) {x : Dg × Value} (hx : R[i]? = some x) (ht : t < 0 ∨ (¬ t < 0 ∧ (x.1.b.length : Int) ≤ t / 8)) (htm : t ≤ 9223372036854775807) : Calls Try.prog 19 #[.pointer (some ⟨p, 0, none⟩), .int .i64 i, .int .i64 t] w fun e w' => e = .returned (.int .i64 9) ∧ w' = w := by
  have hN := has_any (i := i) h
  rw [decide_eq_true (by omega)] at hN
  obtain ⟨g, cap, x', rfl, hc1, hc2, hx', e0, e1, e2, o1, o2⟩ := h.at hi
  obtain rfl : x' = x := by
    rw [hx] at hx'
    exact (Option.some.inj hx').symm
  have c0 := h.c0
  obtain ⟨ao, cp, ev⟩ := o1.shape
  obtain ⟨⟨f, tt, b⟩, u⟩ := x'
  dsimp only at *
  subst ev
  clear h o1 o2 hx hx' hc2
  generalize R.length = n at *
  generalize b.length = k at *
  have i1 : (i : Int) < n := by omega
  rcases ht with ht | ⟨h0, ht⟩
  · clear htm
    go_enter Try.func19, Try.ntmps19
    go_wp2_with (go_at_call 34; refine hN.mono ?_; rintro e w' ⟨rfl, rfl⟩)
    go_ret
    exact ⟨rfl, rfl⟩
  · obtain ⟨T, rfl⟩ : ∃ T : Nat, t = T := ⟨t.toNat, by omega⟩
    have hK3 : (T : Int).tdiv 8 = ((T / 8 : Nat) : Int) := by rw [Int.tdiv_eq_ediv_of_nonneg (by omega)]; omega
    have hw : wrap64 ((T / 8 : Nat) : Int) = ((T / 8 : Nat) : Int) := by unfold wrap64; omega
    have hk : (k : Int) ≤ ((T / 8 : Nat) : Int) := by omega
    clear htm ht h0
    generalize T / 8 = K at *
    go_enter Try.func19, Try.ntmps19
    go_wp2_with (go_at_call 34; refine hN.mono ?_; rintro e w' ⟨rfl, rfl⟩)
    go_ret
    exact ⟨rfl, rfl⟩
end Go.Proofs.Ythmglemjlinlgaa
