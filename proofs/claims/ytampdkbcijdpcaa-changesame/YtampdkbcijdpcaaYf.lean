/- Contracts of a window's Gaps and numbersAbove. Conditions: numbers of an int; as many data as a map can have. -/
import Derived.Test.YtampdkbcijdpcaaYe
import Derived.OpenShut
namespace Go.Proofs.Ytampdkbcijdpcaa
open Go.RowKit Go.Maps
theorem Bk.cellz {w : World} {b : Nat} {t : TypeId} {u : Value} {r : List Value} (h : Bk w b t (u :: r).toArray) : w.cell? ⟨b, 0, none⟩ = some u := h.cellv (j := 0) (by simp)
theorem wf_i64y {n : Int} (h : (Lit.int .i64 n).wf = true) : -9223372036854775808 ≤ n ∧ n ≤ 9223372036854775807 := by
  have := bounds_i64 h
  omega

theorem keyI {key : Value} {z : Lit} (h : keyOf Try.prog 3 key = some z) : ∃ x, key = .int .i64 x ∧ z = kl x ∧ I64 x := by
  obtain ⟨x, rfl, rfl, hwf⟩ := Maps.keyOf_int_inv Try.underlying3 h
  refine ⟨x, rfl, rfl, ?_⟩
  have := wf_i64y hwf
  unfold I64
  omega
/-- The numbers met so far. -/
def Met' (D : DataW Value) (left : Lit → Bool) (s : Int) (zs : List Int) : Prop := zs.Nodup ∧ ∀ x, x ∈ zs ↔ (s < x ∧ I64 x ∧ Maps.has D (kl x) = true ∧ left (kl x) = false)
theorem Met'.start (D : DataW Value) (s : Int) : Met' D (Maps.has D) s [] := ⟨List.nodup_nil, fun x => by cases Maps.has D (kl x) <;> simp⟩
theorem Met'.step {D : DataW Value} {left : Lit → Bool} {s : Int} {zs : List Int} (h : Met' D left s zs) {x : Int} {y : DataW Value} (hx : I64 x) (hlk : left (kl x) = true) (hat : ∀ zd, D.atKey (kl x) zd = y) (hs : s < x) : Met' D (fun z => left z && !z.sameKey (kl x)) s (zs ++ [x]) := by
  have hhas : Maps.has D (kl x) = true := has_true_of_atKey hat
  have hnew : x ∉ zs := fun hx => by have := ((h.2 x).1 hx).2.2.2; rw [hlk] at this; cases this
  refine ⟨List.nodup_append.2 ⟨h.1, by simp, fun a ha b hb => by simp at hb; subst hb; exact fun e => hnew (e ▸ ha)⟩, fun y => ?_⟩
  by_cases hy : y = x
  · subst hy
    rw [show Maps.has D (kl y) = true from hhas]
    simp [Lit.sameKey, kl, hs, hx]
  · simp [h.2 y, hy, Lit.sameKey, kl]
theorem Met'.skip {D : DataW Value} {left : Lit → Bool} {s : Int} {zs : List Int} (h : Met' D left s zs) {x : Int} (hs : ¬ s < x) : Met' D (fun z => left z && !z.sameKey (kl x)) s zs := by
  refine ⟨h.1, fun y => ?_⟩
  rw [h.2 y]
  by_cases hy : y = x
  · subst hy; simp [hs]
  · simp [hy, Lit.sameKey, kl]
theorem ranges_mod {S : Nat → Prop} {w w' : World} {B r N : Nat} {D : DataW Value} {left : Lit → Bool} {cnt : Nat} (h : w.ranges Try.prog 3 hE B r N D left cnt) (hm : Mod S w w') (hB : ¬ S B) (hr : ¬ S r) : w'.ranges Try.prog 3 hE B r N D left cnt := by
  obtain ⟨es, clock, since, seen, c0, hb, F, hs, hD, hi, rest⟩ := h
  exact ⟨es, clock, since, seen, c0, hm.obj hb hB, F, hs, hD, hm.obj hi hr, rest⟩
theorem row_ne_iterI {w : World} {v : Value} {l : List Int} {B r N : Nat} {D : DataW Value} {left : Lit → Bool} {cnt : Nat} (h : Cr.Own w v l) (hr : w.ranges Try.prog 3 hE B r N D left cnt) : v.ownBlock ≠ some r ∧ v.ownBlock ≠ some B := by
  obtain ⟨es, clock, since, seen, c0, hb, _, _, _, hi, _⟩ := hr
  constructor
  · intro e
    obtain ⟨cur, hc⟩ := h.kind e
    rw [hc] at hi
    cases hi
  · intro e
    obtain ⟨cur, hc⟩ := h.kind e
    rw [hc] at hb
    cases hb
set_option maxRecDepth 100000 in
set_option maxHeartbeats 2000000 in
theorem nums_w {w : World} {p : Nat} {X : Nat → Prop} {J : Int → Option Dt} {a h : Int} {n : Nat} (hw : Wm w p X J a h n) (hn : n ≤ 1000000) (s : Int) : Calls Try.prog 62 #[.pointer (some ⟨p, 0, none⟩), .int .i64 s] w fun e w' => ∃ v zs, e = .returned v ∧ Cr.Own w' v zs ∧ Ks J s zs ∧ zs.length ≤ n ∧ Mod (fun _ => False) w w' ∧ (∀ g, v.ownBlock = some g → w.heap.size ≤ g) := by
  obtain ⟨B, V, N, h1, h2, h3, _, _⟩ := hw.blk
  have c0 : w.cell? ⟨p, 0, none⟩ = some (.map (some B)) := h1.cellv (j := 0) rfl
  obtain ⟨D, hown, hsz, hD⟩ := h2.own
  have HD : Hid (∀ x, (I64 x ∧ Maps.has D (kl x) = true) ↔ (J x).isSome = true) := fun x => ⟨fun hx => by rw [← (hD x hx.1).2]; exact hx.2, fun hx => ⟨h2.i64 x hx, by rw [(hD x (h2.i64 x hx)).2]; exact hx⟩⟩
  have HSZ : Hid (Maps.size D = N) := hsz
  have HLT : Hid (B < w.heap.size) := hown.lt
  clear h1 h2 hD hw hsz
  go_enter Try.func62, Try.ntmps62
  go_wp2_with (first | (at_range; refine wpList_range_own _ rfl _ 74 rfl 3 44 lawI Try.underlying74 _ B N D rfl hown ?_; intro w0 hrg0 hg0 hs0) | go_in)
  go_frame
  have HM0 : Hid (Mod (fun _ => False) w w0) := (Mod.refl _ w).grown hg0 (fun k hk => by cases hk)
  clear hg0 hs0 hown
  go_loopw [5] (fun v wr => ∃ (left : Lit → Bool) (cnt : Nat) (zs : List Int), wr.ranges Try.prog 3 hE B w.heap.size N D left cnt ∧ Hid (zs.length + cnt ≤ N) ∧ Cr.Own wr v zs ∧ Hid (Met' D left s zs) ∧ Hid (∀ g, v.ownBlock = some g → w.heap.size ≤ g) ∧ Mod (fun _ => False) w wr) (fun _ wr => wr.rangeLeft B w.heap.size)
  case atStart => exact ⟨_, _, [], hrg0, by show _ ≤ _; rw [HSZ.out]; simp, Cr.Own.nil _, Met'.start D s, by intro g hg; simp [Value.ownBlock] at hg, HM0.out⟩
  case round =>
    clear hrg0
    obtain ⟨left, cnt, zs, hrg, hcs, hown, hC, hnew, hMr⟩ := hrel
    go_wp2_with (first | (at_next; refine wpList_next_ranges _ rfl _ rfl 3 lawI hE (Value.int .i64) (fun c : Value => c) (fun key z hk => by obtain ⟨x, hx, _⟩ := keyI hk; exact ⟨x, hx⟩) (fun v y hv => ⟨v, rfl⟩) B w.heap.size N _ _ _ rfl hrg ?_ ?_) | go_in)
    · intro hc0 hl0
      have HKS : Hid (Ks J s (zs.mergeSort fun x y => decide (x ≤ y))) := Ks.sort hC.out.1 fun x => by
        rw [hC.out.2 x, hl0]
        have := HD.out x
        constructor
        · rintro ⟨q1, q2, q3, _⟩
          exact ⟨q1, this.1 ⟨q2, q3⟩⟩
        · rintro ⟨q1, q2⟩
          exact ⟨q1, (this.2 q2).1, (this.2 q2).2, rfl⟩
      have HS := sort_own _ zs wr hown (by have := hcs.out; omega)
      have HLN : Hid ((zs.mergeSort fun x y => decide (x ≤ y)).length ≤ n) := by show _ ≤ _; rw [List.length_mergeSort]; have := hcs.out; omega
      clear hl0 hc0
      go_wp2_with (go_at_call 74; refine HS.mono ?_; rintro e w5 ⟨rfl, ho5, hm5⟩)
      go_ret
      exact ⟨_, _, rfl, ho5, HKS.out, HLN.out, hMr.trans hm5 (fun _ _ h => h) (fun g hg e => by have := hnew.out g e; omega), hnew.out⟩
    · intro x c kz yd yp w2 cnt2 hkey hlk hv hat hrg2 hlt hg2 hs2 hen
      obtain ⟨x', ex, rfl, hx⟩ := keyI hkey
      cases ex
      have hm2 : Mod (fun k => k = w.heap.size) wr w2 := (Mod.refl _ wr).grown hg2 (fun k hk _ => by cases hk; rfl)
      have hM2 : Mod (fun _ => False) w w2 := hMr.trans hm2 (fun _ _ h => h) (fun k hk e => by omega)
      have ho2 := hown.mod hm2 (fun g hg e => (row_ne_iterI hown hrg).1 (e ▸ hg))
      have HLT2 : Hid (cnt2 < cnt) := hlt
      have HRG : Hid (wr.ranges Try.prog 3 hE B w.heap.size N D left cnt) := hrg
      have HRG2 : Hid (w2.ranges Try.prog 3 hE B w.heap.size N D (fun z => left z && !z.sameKey (kl x)) cnt2) := hrg2
      by_cases hsx : s < x
      · have HC2 : Hid (Met' D (fun z => left z && !z.sameKey (kl x)) s (zs ++ [x])) := hC.out.step hx hlk hat hsx
        have HLZ : Hid (zs.length + 1 ≤ 1000000000000) := by show _ ≤ _; have := hcs.out; omega
        clear hkey hlk hv hat hrg2 hlt hg2 hs2 hm2 hMr hown hC hrg
        go_wp2_with (first | (at_builtin; refine wpList_app1 rfl _ _ rfl _ zs x w2.heap.size rfl rfl (ho2.mod ((Mod.refl (fun _ => False) w2).alloc _) (fun _ _ h => h)) (Bk.new w2 #[.int .i64 x] 3).cellz HLZ.out ?_; intro v4 w4 ho4 hm4 hf4) | go_in)
        have hA2 := (Mod.refl (fun _ => False) w2).alloc (.cells #[.int .i64 x] 3)
        have HR4 : Hid (w4.ranges Try.prog 3 hE B w.heap.size N D (fun z => left z && !z.sameKey (kl x)) cnt2) := ranges_mod (ranges_mod HRG2.out hA2 (fun h => h) (fun h => h)) hm4 (row_ne_iterI ho2 HRG2.out).2 (row_ne_iterI ho2 HRG2.out).1
        have HN4 : Hid (∀ g, v4.ownBlock = some g → w.heap.size ≤ g) := fun g hg => by
          rcases hf4 g hg with h1 | h1
          · exact hnew.out g h1
          · have := hM2.size; simp at h1; omega
        have HM4 : Hid (Mod (fun _ => False) w w4) := (hM2.alloc _).trans hm4 (fun _ _ h => h) (fun g hg e => by have := hnew.out g e; omega)
        have HLn : Hid ((zs ++ [x]).length + cnt2 ≤ N) := by show _ ≤ _; simp; have := hcs.out; have := HLT2.out; omega
        clear hf4 hm4 hA2
        go_roundw
        case rel => exact ⟨_, _, _, HR4.out, HLn, ho4, HC2, HN4, HM4.out⟩
        case measure => rw [HR4.out.left_eq, HRG.out.left_eq]; exact HLT2.out
      · have HC2 : Hid (Met' D (fun z => left z && !z.sameKey (kl x)) s zs) := hC.out.skip hsx
        have HLn : Hid (zs.length + cnt2 ≤ N) := by show _ ≤ _; have := hcs.out; have := HLT2.out; omega
        clear hkey hlk hv hat hrg2 hlt hg2 hs2 hm2 hMr hown hC hrg
        go_wp2
        go_roundw
        case rel => exact ⟨_, _, _, HRG2.out, HLn, ho2, HC2, hnew, hM2⟩
        case measure => rw [HRG2.out.left_eq, HRG.out.left_eq]; exact HLT2.out
end Go.Proofs.Ytampdkbcijdpcaa
