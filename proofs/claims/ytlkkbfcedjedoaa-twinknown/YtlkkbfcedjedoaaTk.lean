/- Contracts of the laws' own small calls: same, frame, comes. Conditions: bytes of at most 2^47; twins as in the text on Unwrap. -/
import Derived.Test.YtlkkbfcedjedoaaTj
namespace Go.Proofs.Ytlkkbfcedjedoaa
open Go.RowKit
set_option maxRecDepth 100000 in
set_option maxHeartbeats 1000000 in
theorem same_any (s l n s' l' n' : Int) (u v : Value) (A B : List Int) (w : World) (hu : Sl w u A) (hv : Sl w v B) :
    Calls Try.prog 14 #[.agg #[.int .i64 s, .int .i64 l, .int .i64 n, u], .agg #[.int .i64 s', .int .i64 l', .int .i64 n', v]] w fun e w' => e = .returned (.bool (decide (s = s' ∧ l = l' ∧ n = n' ∧ A = B))) ∧ Mod (fun _ => False) w w' := by
  have hM := ((Mod.refl (fun _ => False) w).alloc (.cells #[.int .i64 s, .int .i64 l, .int .i64 n, u] 24)).alloc (.cells #[.int .i64 s', .int .i64 l', .int .i64 n', v] 24)
  have H := EqBytes_any u v A B _ (hu.mod hM (fun _ _ h => h)) (hv.mod hM (fun _ _ h => h))
  obtain ⟨a1, c1, rfl, _⟩ := hu.form
  obtain ⟨a2, c2, rfl, _⟩ := hv.form
  clear hu hv
  have hR : Hid (decide (s = s' ∧ l = l' ∧ n = n' ∧ A = B) = (decide (s = s') && (decide (l = l') && (decide (n = n') && decide (A = B))))) := by
    show _ = _
    rw [Bool.eq_iff_iff]; simp
  rw [hR.out]
  clear hR
  generalize decide (A = B) = R at *
  by_cases h1 : s = s'
  · have e1 : (s == s') = true := by simpa using h1
    rw [decide_eq_true h1]
    by_cases h2 : l = l'
    · have e2 : (l == l') = true := by simpa using h2
      rw [decide_eq_true h2]
      by_cases h3 : n = n'
      · have e3 : (n == n') = true := by simpa using h3
        rw [decide_eq_true h3]
        clear h1 h2 h3
        go_enter Try.func14, Try.ntmps14
        go_wp2_with (fail)
        refine H.mono ?_
        rintro e w1 ⟨rfl, hm⟩
        go_wp2
        go_ret
        exact ⟨by simp, hM.trans hm (V := fun _ => False) (fun _ _ h => h) (fun _ _ h => h)⟩
      · have e3 : (n == n') = false := by simpa using h3
        rw [decide_eq_false h3]
        clear h1 h2 h3 H
        go_enter Try.func14, Try.ntmps14
        go_wp2
        go_ret
        exact ⟨by simp, hM⟩
    · have e2 : (l == l') = false := by simpa using h2
      rw [decide_eq_false h2]
      clear h1 h2 H
      go_enter Try.func14, Try.ntmps14
      go_wp2
      go_ret
      exact ⟨by simp, hM⟩
  · have e1 : (s == s') = false := by simpa using h1
    rw [decide_eq_false h1]
    clear h1 H
    go_enter Try.func14, Try.ntmps14
    go_wp2
    go_ret
    exact ⟨by simp, hM⟩
theorem frame_any (s l n : Int) (v : Value) (B : List Int) (w : World) (hs : Sl w v B) : Calls Try.prog 29 #[.int .i64 s, .int .i64 l, .int .i64 n, v] w fun e w' => ∃ v', e = .returned v' ∧ Own w' v' (paD s l n B) ∧ Mod (fun _ => False) w w' ∧ (∀ g, v'.ownBlock = some g → w.heap.size ≤ g) := by
  have H := Pack_any s l n v B w hs
  obtain ⟨ao, cap, rfl, _⟩ := hs.form
  generalize paD s l n B = D at *
  clear hs
  go_enter Try.func29, Try.ntmps29
  go_wp2_with (fail)
  refine H.mono ?_
  rintro e w1 ⟨v1, rfl, ho, hm, hg⟩
  go_wp2
  go_ret
  exact ⟨v1, rfl, ho, hm, hg⟩
theorem comes_ok {p : Nat} {X : Nat → Prop} {N : Nat} {a : Tn} {K : Int → Option Kw} {w : World} (h : Tw w p X a K) (hN : N < 1152921504606846976) (ok : OkT N a) (n : Nat) (hn : n < a.sz) (v : Value) (b : List Int) (hs : Sl w v b) (hb : b.length ≤ 140737488355328) (hE : opE b = 0) :
    Calls Try.prog 30 #[.pointer (some ⟨p, 0, none⟩), .int .i64 n, v] w fun e w' => ∃ X', e = .returned (.int .i64 (if nwB K (opN b 0) (opN b 1) (opN b 2) then 1 else 0)) ∧ Tw w' p X' (a.came n) (nwK K (opN b 0) (opN b 1) (opN b 2)) ∧ Mod X w w' ∧ Gone w X X' := by
  have H := tUnwrap_ok h hN ok n hn v b hs hb hE
  clear h hN ok hn hs hb hE
  generalize nwB K (opN b 0) (opN b 1) (opN b 2) = NB at *
  generalize nwK K (opN b 0) (opN b 1) (opN b 2) = NK at *
  generalize opB b = OB at *
  cases NB
  all_goals
    go_enter Try.func30, Try.ntmps30
    go_wp2_with (fail)
    refine H.mono ?_
    rintro e w1 ⟨v1, X1, rfl, ho, hg, hT, hm, hG⟩
    go_wp2
    go_ret
    first | exact ⟨X1, rfl, hT, hm, hG⟩ | exact ⟨rfl, X1, hT, hm, hG⟩
theorem comes_err {p : Nat} {X : Nat → Prop} {N : Nat} {a : Tn} {K : Int → Option Kw} {w : World} (h : Tw w p X a K) (ok : OkT N a) (n : Int) (hn : 0 ≤ n ∧ n < a.sz) (v : Value) (b : List Int) (hs : Sl w v b) (hb : b.length ≤ 140737488355328) (hE : ¬ opE b = 0) (hR : -100 ≤ opE b ∧ opE b ≤ 100) :
    Calls Try.prog 30 #[.pointer (some ⟨p, 0, none⟩), .int .i64 n, v] w fun e w' => e = .returned (.int .i64 (-(opE b))) ∧ Mod (fun _ => False) w w' := by
  have H := tUnwrap_err h ok n hn v b hs hb hE
  clear h ok hn hs hb
  generalize opE b = er at *
  go_enter Try.func30, Try.ntmps30
  go_wp2_with (fail)
  refine H.mono ?_
  rintro e w1 ⟨rfl, hm⟩
  go_wp2
  go_ret
  exact ⟨rfl, hm⟩
theorem comes_arg {p : Nat} {X : Nat → Prop} {N : Nat} {a : Tn} {K : Int → Option Kw} {w : World} (h : Tw w p X a K) (ok : OkT N a) (n : Int) (hn : ¬ (0 ≤ n ∧ n < a.sz)) (v : Value) :
    Calls Try.prog 30 #[.pointer (some ⟨p, 0, none⟩), .int .i64 n, v] w fun e w' => e = .returned (.int .i64 (-2)) ∧ w' = w := by
  have H := tUnwrap_arg h ok n hn v
  clear h ok hn
  go_enter Try.func30, Try.ntmps30
  go_wp2_with (fail)
  refine H.mono ?_
  rintro e w ⟨rfl, rfl⟩
  go_wp2
  go_ret
  exact ⟨rfl, rfl⟩
/-- A frame that may be, packed. -/
theorem paD_ok {s l n : Int} {B : List Int} (h : okF s l n B.length = true) : paE s l n B = 0 ∧ paD s l n B = Sm.sealed (fby s l n B) := by
  have h4 := (okF_parts h).2.2.2
  have hE : paE s l n B = 0 := by unfold paE; rw [if_neg (by omega), h]; rfl
  exact ⟨hE, by unfold paD; rw [if_pos hE]⟩
theorem paD_rng {s l n : Int} {B : List Int} (hr : ∀ c ∈ B, 0 ≤ c ∧ c ≤ 255) : ∀ c ∈ paD s l n B, 0 ≤ c ∧ c ≤ 255 := by
  unfold paD
  split
  · exact Sm.sealed_rng (by rw [fby_packs]; exact rng_app (packs_rng _) (rng_app (enc_rng _) (by simpa using hr)))
  · simp
theorem paD_len {s l n : Int} {B : List Int} (h : B.length ≤ 512) : (paD s l n B).length ≤ 600 := by
  have h1 := enc_len s.toNat; have h2 := enc_len l.toNat; have h3 := enc_len n.toNat; have h4 := enc_len B.length
  unfold paD
  split
  · rw [Sm.sealed_len]; unfold fby; simp; omega
  · simp
/-- A frame that may be comes over a lane. -/
theorem comes_fr {p : Nat} {X : Nat → Prop} {N : Nat} {a : Tn} {K : Int → Option Kw} {w : World} (h : Tw w p X a K) (hN : N < 1152921504606846976) (ok : OkT N a) (k : Nat) (hk : k < a.sz) {v : Value} {s l n : Int} {B : List Int} (hv : Sl w v (paD s l n B)) (hf : okF s l n B.length = true) :
    Calls Try.prog 30 #[.pointer (some ⟨p, 0, none⟩), .int .i64 k, v] w fun e w' => ∃ X', e = .returned (.int .i64 (if nwB K s l n then 1 else 0)) ∧ Tw w' p X' (a.came k) (nwK K s l n) ∧ Mod X w w' ∧ Gone w X X' := by
  have hl := paD_len (s := s) (l := l) (n := n) (okF_parts hf).2.2.2
  obtain ⟨_, e2⟩ := paD_ok hf
  obtain ⟨o1, o2, o3, o4, _⟩ := op_forth hf
  rw [← e2] at o1 o2 o3 o4
  have := comes_ok h hN ok k hk v (paD s l n B) hv (by omega) o1
  rw [o2, o3, o4] at this
  exact this
end Go.Proofs.Ytlkkbfcedjedoaa
