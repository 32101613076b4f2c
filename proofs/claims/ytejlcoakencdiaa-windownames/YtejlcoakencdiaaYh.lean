/- Contracts of the laws' own calls: one, numbersOf, awake. No conditions. -/
import Derived.Test.YtejlcoakencdiaaYg
namespace Go.Proofs.Ytejlcoakencdiaa
open Go.RowKit Go.Maps
/-- Data with a number. -/
def on (n : Int) : Dt := ⟨1, 1, n, 1, 0, ⟨3, 1, 0, n, 0, 0, 0, false, 0, 0, 0, 0, []⟩⟩
set_option maxRecDepth 100000 in
set_option maxHeartbeats 2000000 in
theorem one_any (n : Int) (w : World) : Calls Try.prog 28 #[.int .i64 n] w fun e w' => e = .returned (dv (on n) (.slice none 0 0)) ∧ Mod (fun _ => False) w w' := by
  have hZ : Hid (Bk _ _ _ _) := Bk.new w #[.int .i64 0, .int .i64 0, .int .i64 0, .int .i64 0, .int .i64 0, .int .i64 0, .int .i64 0, .int .i64 0, .int .i64 0, .int .i64 0, .int .i64 0, .int .i64 0, .bool false, .int .i64 0, .int .i64 0, .int .i64 0, .int .i64 0, .slice none 0 0] 35
  have hA := (Mod.refl (fun _ => False) w).alloc (.cells #[.int .i64 0, .int .i64 0, .int .i64 0, .int .i64 0, .int .i64 0, .int .i64 0, .int .i64 0, .int .i64 0, .int .i64 0, .int .i64 0, .int .i64 0, .int .i64 0, .bool false, .int .i64 0, .int .i64 0, .int .i64 0, .int .i64 0, .slice none 0 0] 35)
  unfold dv on
  go_enter Try.func28, Try.ntmps28
  go_wp2_with (refine wpList_store_row info18 rfl rfl _ _ rfl w.heap.size #[.int .i64 1, .int .i64 1, .int .i64 n, .int .i64 1, .int .i64 0, .int .i64 3, .int .i64 1, .int .i64 0, .int .i64 n, .int .i64 0, .int .i64 0, .int .i64 0, .bool false, .int .i64 0, .int .i64 0, .int .i64 0, .int .i64 0, .slice none 0 0] rfl rfl hZ.out rfl rfl rfl ?_; intro wF hBF hMF)
  exact bodyPost_ret (resT info18 Try.underlying35 rfl rfl rfl hBF rfl) rfl ⟨rfl, hA.trans hMF (V := fun _ => False) (fun _ _ h => h) (fun i hi h => by omega)⟩
set_option maxRecDepth 100000 in
set_option maxHeartbeats 2000000 in
theorem numbersOf_any (v : Value) (ds : List (Dt × Value)) (w : World) (hR : RG w 35 18 v ds.length (fd ds)) (hl : ds.length ≤ 1000000) : Calls Try.prog 30 #[v] w fun e w' => ∃ u, e = .returned u ∧ Cr.Own w' u (ds.map (·.1.n)) ∧ Mod (fun _ => False) w w' ∧ (∀ g, u.ownBlock = some g → w.heap.size ≤ g) := by
  have HR : Hid (RG w 35 18 v ds.length (fd ds)) := hR
  obtain ⟨av, cv, rfl⟩ := hR.shape
  clear hR
  go_enter Try.func30, Try.ntmps30
  go_wp2_with (fail)
  go_loopw [3, 4] (fun u i wr => ∃ (j : Nat), i = .int .i64 (j : Int) ∧ j ≤ ds.length ∧ Cr.Own wr u ((ds.take j).map (·.1.n)) ∧ Mod (fun _ => False) w wr ∧ Hid (∀ g, u.ownBlock = some g → w.heap.size ≤ g)) (fun _ i _ => ds.length - (intOf i).toNat)
  case atStart => exact ⟨0, rfl, Nat.zero_le _, by simpa using Cr.Own.nil _, Mod.refl _ _, by intro g hg; simp [Value.ownBlock] at hg⟩
  case round =>
    obtain ⟨j, rfl, hj, ho, hMr, hnew⟩ := hrel
    by_cases hlt : j < ds.length
    · have hlt' : (j : Int) < (ds.length : Int) := by omega
      obtain ⟨x, hx⟩ : ∃ x, ds[j]? = some x := ⟨ds[j], List.getElem?_eq_getElem hlt⟩
      obtain ⟨gb, of, cp, e, hrg⟩ := (HR.out.mod hMr (fun _ _ h => h)).range (by omega)
      cases e
      have c2 : wr.cell? ⟨gb, of + j * 18 + 2, none⟩ = some (.int .i64 x.1.n) := by
        have := hrg (j * 18 + 2) _ (fd_get ds j x hx 2 (.int .i64 x.1.n) rfl)
        rwa [← Nat.add_assoc] at this
      obtain ⟨ao, cp2, rfl⟩ := ho.shape
      have HT : Hid ((ds.take (j + 1)).map (·.1.n) = (ds.take j).map (·.1.n) ++ [x.1.n]) := by
        show _ = _
        rw [List.take_add_one, hx, List.map_append]
        rfl
      have HL : Hid (((ds.take j).map (·.1.n)).length + 1 ≤ 1000000000000) := by show _ ≤ _; simp; omega
      have hb1 : (0 : Int) ≤ (j : Int) := by omega
      have hjb : (j : Int) + 1 ≤ 1000000 := by omega
      have HLT : Hid (j < ds.length) := hlt
      clear hrg hx
      generalize (ds.take j).map (·.1.n) = L at *
      generalize x.1.n = y at *
      go_wp2_with (at_builtin; refine wpList_app1 rfl _ _ rfl _ L y wr.heap.size rfl rfl (ho.mod ((Mod.refl (fun _ => False) wr).alloc _) (fun _ _ h => h)) (Bk.new wr #[.int .i64 y] 3).cellz HL.out ?_; intro v4 w4 ho4 hm4 hf4)
      have HN4 : Hid (∀ g, v4.ownBlock = some g → w.heap.size ≤ g) := fun g hg => by
        rcases hf4 g hg with h1 | h1
        · exact hnew.out g h1
        · have := hMr.size; simp at h1; omega
      have HM4 : Hid (Mod (fun _ => False) w w4) := (hMr.alloc _).trans hm4 (fun _ _ h => h) (fun g hg e => by have := hnew.out g e; omega)
      clear hf4 hm4
      go_roundw
      case rel => exact ⟨j + 1, by go_num, HLT.out, by rw [HT.out]; exact ho4, HM4.out, HN4⟩
      case measure =>
        have := HLT.out
        simp [intOf]
        omega
    · have HE : Hid (j = ds.length) := by show _ = _; omega
      obtain ⟨ao, cp2, rfl⟩ := ho.shape
      go_wp2
      go_ret
      have hl2 : (ds.take j).map (·.1.n) = ds.map (·.1.n) := by rw [HE.out, List.take_length]
      refine ⟨_, rfl, ?_, hMr, hnew.out⟩
      rw [← hl2]
      exact ho
theorem Own.nilSl (w : World) : Sl w (.slice none 0 0) [] := (Own.nil w).sl (by simp)
theorem onSl (w : World) (n : Int) : Sl w (.slice none 0 0) (on n).m.body := Own.nilSl w
theorem okOn {n : Int} (h : 1 ≤ n ∧ n ≤ 9007199254740991) : okP (on n) = true := by
  have e : cr (on n).q (on n).r = 0 := rfl
  unfold okP
  rw [e]
  simp only [beq_self_eq_true, Bool.true_and, Bool.and_eq_true, decide_eq_true_eq]
  exact ⟨h.1, h.2⟩
/-- Put, of data with a number. -/
theorem Put_on {w : World} {p : Nat} {X : Nat → Prop} {J : Int → Option Dt} {a h : Int} {n : Nat} (hw : Wn w p X J a h n) (k : Int) (hk : 1 ≤ k ∧ k ≤ 9007199254740991) (hN : n < 1000000000000) :
    Calls Try.prog 12 #[.pointer (some ⟨p, 0, none⟩), dv (on k) (.slice none 0 0)] w fun e w' => ∃ X' a', e = .returned (.tuple #[.bool !(J k).isSome, .int .i64 0]) ∧ Wn w' p X' (if (J k).isSome = true then J else upd J k (some (on k))) a' (max h k) (n + 1) ∧ a ≤ a' ∧ Mod X w w' ∧ Gone w X X' := by
  refine (Put_any hw (on k) _ (onSl w k) (by simp [on]) hN).mono ?_
  rintro e w' ⟨X', a', rfl, h1, h2, h3, h4⟩
  have ho := okOn hk
  have e1 : (on k).n = k := rfl
  refine ⟨X', a', by simp [pF, pE, ho, e1], ?_, h2, h3, h4⟩
  cases hj : (J k).isSome with
  | true =>
    rw [show pJ J (on k) = J by simp [pJ, pF, ho, e1, hj], show pH J h (on k) = h by simp [pH, pF, ho, e1, hj]] at h1
    have : max h k = h := by have := hw.wp.high.2.2 k hj; omega
    rw [this]
    exact h1
  | false =>
    have hj2 : J k = none := by simpa using hj
    rw [show pJ J (on k) = upd J k (some (on k)) by simp [pJ, pF, ho, e1, hj2], show pH J h (on k) = max h k by simp [pH, pF, ho, e1, hj2]] at h1
    exact h1
theorem not_aru {J : Int → Option Dt} {a h : Int} (hp : Wp J a h) (h1 : J 1 = none) : a = 0 := by
  obtain ⟨b0, b1, _⟩ := hp.aru
  rcases Int.lt_or_le a 1 with h | h
  · omega
  · have := b1 1 (Int.le_refl _) h
    rw [h1] at this
    cases this
theorem See_ok {w : World} {p : Nat} {X : Nat → Prop} {J : Int → Option Dt} {a h : Int} {n : Nat} (hw : Wn w p X J a h n) (k : Int) (hk : 0 ≤ k ∧ k ≤ 9007199254740991) : Calls Try.prog 9 #[.pointer (some ⟨p, 0, none⟩), .int .i64 k] w fun e w' => e = .returned (.int .i64 0) ∧ Wn w' p X J a (max h k) n ∧ Mod X w w' := by
  refine (See_w hw k).mono ?_
  rintro e w' ⟨rfl, h1, h2⟩
  rw [show sH h k = max h k by simp [sH, okS, hk]] at h1
  exact ⟨by simp [sE, okS, hk], h1, h2⟩
theorem awake_any (w : World) : Calls Try.prog 27 #[] w fun e w' => e = .returned (.bool true) ∧ Mod (fun _ => False) w w' := by
  go_enter Try.func27, Try.ntmps27
  go_wp2_with (fail)
  refine (wNew w).mono ?_
  rintro e w1 ⟨p, X, rfl, hw1, hX, hm1⟩
  have HNEW : Hid (∀ i, X i → w.heap.size ≤ i) := hX
  clear hX
  go_wp2_with (fail)
  refine (one_any 2 w1).mono ?_
  rintro e w2 ⟨rfl, hm2⟩
  have hW2 := hw1.keep hm2
  have hM2 := hm1.and hm2
  clear hw1 hm1 hm2
  go_wp2_with (fail)
  refine (Put_on hW2 2 (by decide) (by decide)).mono ?_
  rintro e w3 ⟨X3, a3, rfl, hW3, -, hm3, hG3⟩
  simp only [Option.isSome_none, Bool.false_eq_true, if_false, Bool.not_false] at hW3 ⊢
  have HM3 : Hid (Mod (fun _ => False) w w3) := hM2.trans hm3 (fun _ _ h => h) (fun i hi h => by have := HNEW.out i h; omega)
  have HNEW3 : Hid (∀ i, X3 i → w.heap.size ≤ i) := fun i hi => by
    rcases hG3 i hi with h | h
    · exact HNEW.out i h
    · have := hM2.size; omega
  clear hm3 hG3 hM2 hW2 HNEW
  go_wp2_with (fail)
  refine (one_any 2 w3).mono ?_
  rintro e w4 ⟨rfl, hm4⟩
  have hW4 := hW3.keep hm4
  have hM4 := HM3.out.and hm4
  clear hW3 hm4
  go_wp2_with (fail)
  refine (Put_on hW4 2 (by decide) (by decide)).mono ?_
  rintro e w5 ⟨X5, a5, rfl, hW5, -, hm5, hG5⟩
  simp only [upd_same, Option.isSome_some, if_true, Bool.not_true] at hW5 ⊢
  have HM5 : Hid (Mod (fun _ => False) w w5) := hM4.trans hm5 (fun _ _ h => h) (fun i hi h => by have := HNEW3.out i h; omega)
  have HNEW5 : Hid (∀ i, X5 i → w.heap.size ≤ i) := fun i hi => by
    rcases hG5 i hi with h | h
    · exact HNEW3.out i h
    · have := hM4.size; omega
  clear hm5 hG5 hM4 hW4 HNEW3 HM3
  go_wp2_with (fail)
  refine (See_ok hW5 4 (by decide)).mono ?_
  rintro e w6 ⟨rfl, hW6, hm6⟩
  have HM6 : Hid (Mod (fun _ => False) w w6) := HM5.out.trans hm6 (fun _ _ h => h) (fun i hi h => by have := HNEW5.out i h; omega)
  clear hm6 hW5 HM5
  obtain rfl : a5 = 0 := not_aru hW6.wp rfl
  have hW6' : Wn w6 p X5 _ 0 4 _ := hW6
  have HW6 : Hid (Wn w6 p X5 _ 0 4 _) := hW6'
  have HRU := Aru_w hW6'
  have HHI := High_w hW6'
  have HGA := Gaps_w hW6' 9
  have eg : (fil (upd (fun _ => none) 2 (some (on 2))) (4 : Int).toNat).take (min 9 16 : Int).toNat = [1, 3, 4] := by decide
  rw [eg] at HGA
  clear hW6 hW6' eg
  go_wp2_with (first | (go_at_call 18; refine HRU.mono ?_; rintro e w7 ⟨rfl, rfl⟩) | (go_at_call 20; refine HHI.mono ?_; rintro e w8 ⟨rfl, rfl⟩) | (go_at_call 23; refine HGA.mono ?_; rintro e w9 ⟨v9, rfl, ho9, hm9, hg9⟩; have hA9 := (Mod.refl (fun _ => False) w9).alloc (.cells (Cr.U [1, 3, 4]).toArray 3)) | (go_at_call 22; refine (Cr.EqInts_at true ((ho9.mod hA9 (fun _ _ h => h)).sl) (Cr.Own.lit w9 [1, 3, 4] (by simp [maxLen])).sl (by decide)).mono ?_; rintro e w10 ⟨rfl, hm10⟩))
  go_ret
  exact ⟨rfl, ((HM6.out.and hm9).and hA9).and hm10⟩
end Go.Proofs.Ytejlcoakencdiaa
