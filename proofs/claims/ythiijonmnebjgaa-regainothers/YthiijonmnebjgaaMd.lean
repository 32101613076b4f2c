/- The law's old and one; data with numbers, put into windows and sent again. Conditions: numbers from 1 to 100. -/
import Derived.Test.YthiijonmnebjgaaMc
namespace Go.Proofs.Ythiijonmnebjgaa
open Go.RowKit
theorem old_any (w : World) : Calls Try.prog 14 #[] w fun e w' => e = .returned (.agg #[.int .i64 2, .int .i64 1]) ∧ Mod (fun _ => False) w w' := by
  have hA := (Mod.refl (fun _ => False) w).alloc (.cells #[.int .i64 2, .int .i64 1] 34)
  have hB := Bk.new w #[.int .i64 2, .int .i64 1] 34
  go_enter Try.func14, Try.ntmps14
  go_wp2
  refine bodyPost_ret (resT (t := 34) (n := 2) (by kernel_rfl) Try.underlying34 rfl rfl rfl hB rfl) rfl ?_
  exact ⟨rfl, hA⟩
/-- Data with a number, of a ring. -/
def onR (q r n : Int) : Dt := ⟨q, r, n, 1 + n % 8, n, ⟨1, 1 + n % 8, 1, n, 0, 1, 1, false, 0, 0, 0, 0, [n]⟩⟩
def on (n : Int) : Dt := onR 2 1 n
theorem onR_rng {q r n : Int} (h : 1 ≤ n ∧ n ≤ 100) : ∀ c ∈ (onR q r n).m.body, 0 ≤ c ∧ c ≤ 255 := fun c hc => by
  simp only [onR, List.mem_singleton] at hc
  omega
theorem one_any (n : Int) (w : World) (h : 1 ≤ n ∧ n ≤ 100) : Calls Try.prog 9 #[.int .i64 n] w fun e w' => ∃ v, e = .returned (dv (on n) v) ∧ Own w' v [n] ∧ (∀ g, v.ownBlock = some g → w.heap.size ≤ g) ∧ Mod (fun _ => False) w w' := by
  have ht : n.tmod 8 = n % 8 := Int.tmod_eq_emod_of_nonneg (by omega)
  have hn8 : IntKind.u8.wrap n = n := by rw [show IntKind.u8.wrap n = n % 256 from rfl]; omega
  have h1 : 0 ≤ n % 8 ∧ n % 8 < 8 := by omega
  have hA := (Mod.refl (fun _ => False) w).alloc (.cells #[.int .i64 0, .int .i64 0, .int .i64 0, .int .i64 0, .int .i64 0, .int .i64 0, .int .i64 0, .int .i64 0, .int .i64 0, .int .i64 0, .int .i64 0, .int .i64 0, .bool false, .int .i64 0, .int .i64 0, .int .i64 0, .int .i64 0, .slice none 0 0] 41)
  have HB : Hid (Bk _ _ _ _) := Bk.new w #[.int .i64 0, .int .i64 0, .int .i64 0, .int .i64 0, .int .i64 0, .int .i64 0, .int .i64 0, .int .i64 0, .int .i64 0, .int .i64 0, .int .i64 0, .int .i64 0, .bool false, .int .i64 0, .int .i64 0, .int .i64 0, .int .i64 0, .slice none 0 0] 41
  have HO := old_any (w.alloc (.cells #[.int .i64 0, .int .i64 0, .int .i64 0, .int .i64 0, .int .i64 0, .int .i64 0, .int .i64 0, .int .i64 0, .int .i64 0, .int .i64 0, .int .i64 0, .int .i64 0, .bool false, .int .i64 0, .int .i64 0, .int .i64 0, .int .i64 0, .slice none 0 0] 41))
  have HA : Hid (Mod _ _ _) := hA
  have hw8 : IntKind.i64.wrap ((1 : Int) + n % 8) = 1 + n % 8 := by rw [IntKind.wrap_i64]; omega
  clear hA
  unfold dv on onR
  go_enter Try.func9, Try.ntmps9
  go_wp2_with (fail)
  refine HO.mono ?_
  rintro e w1 ⟨rfl, hm1⟩
  have hL := (Mod.refl (fun _ => False) w1).alloc (.cells (U [n]).toArray 5)
  have hB1 := (HB.out.mod hm1 (fun h => h)).mod hL (fun h => h)
  have hO := Own.lit w1 [n] (by simp [maxLen])
  have HM : Hid (Mod (fun _ => False) w (w1.alloc (.cells (U [n]).toArray 5))) := (HA.out.and hm1).and hL
  have HS : Hid (w.heap.size ≤ w1.heap.size) := by have := (HA.out.and hm1).size; exact this
  have HO1 : Hid (Own _ _ _) := hO
  clear hL hO HO hm1
  unfold U at hB1
  simp only [List.map_cons, List.map_nil] at hB1
  go_wp2_with (refine wpList_store_row info18 rfl rfl _ _ rfl w.heap.size #[.int .i64 2, .int .i64 1, .int .i64 n, .int .i64 (1 + n % 8), .int .i64 n, .int .i64 1, .int .i64 (1 + n % 8), .int .i64 1, .int .i64 n, .int .i64 0, .int .i64 1, .int .i64 1, .bool false, .int .i64 0, .int .i64 0, .int .i64 0, .int .i64 0, .slice (some ⟨w1.heap.size, 0, none⟩) 1 1] rfl rfl hB1 rfl rfl rfl ?_; intro wF hBF hMF)
  refine bodyPost_ret (resT info18 Try.underlying41 rfl rfl rfl hBF rfl) rfl ?_
  refine ⟨_, rfl, HO1.out.mod hMF (fun i hi e => hB1.ne_ow (by decide) HO1.out (e ▸ hi)), fun g hg => ?_, HM.out.trans hMF (V := fun _ => False) (fun _ _ h => h) (fun i hi h => by omega)⟩
  simp only [Value.ownBlock, Option.some.injEq] at hg
  subst hg
  exact HS.out
theorem chk_onR {q r n : Int} (h : 1 ≤ n ∧ n ≤ 100) : chk (onR q r n).m = 0 := by
  refine chk_of (by simp [onR]) ?_ ?_
  · have h1 : nd (1 + n % 8) = true := by simp only [nd, decide_eq_true_eq]; omega
    have h2 : nm n = true := by simp only [nm, decide_eq_true_eq]; omega
    simp [hn, onR, h1, h2, ck, cr, show nm 1 = true from rfl, show nm 0 = true from rfl]
  · simp [kd, kd0, tx, onR]
theorem olD_onR {q r n : Int} (hq : isr q r = true) (h : 1 ≤ n ∧ n ≤ 100) : olD (onR q r n) = 0 := by
  have hc := chk_onR (q := q) (r := r) h
  have h1 : nd (1 + n % 8) = true := by simp only [nd, decide_eq_true_eq]; omega
  have h2 : nm n = true := by simp only [nm, decide_eq_true_eq]; omega
  unfold olD olE
  rw [if_pos ⟨hc, (old_chk (onR_rng h) hc).2 ⟨h1, h2, h2, hq, by show (0 : Int) < n; omega, by simp [onR]⟩⟩]
theorem in_old {d : Dt} (h : olD d = 0) : inE (oldm d) = 0 ∧ inD (oldm d) = d := by
  have : olE d.t d.q d.r d.n d.s d.m = 0 := h
  unfold olE at this
  split at this
  · rename_i hc
    refine ⟨?_, ?_⟩
    · unfold inE
      rw [if_pos ⟨rfl, hc.2⟩]
    · show (⟨d.q, d.r, d.n, d.s, d.t, prM (pk d.m)⟩ : Dt) = d
      rw [(un_pk0 hc.1).1]
  · omega
theorem okP_onR {q r n : Int} (hr : cr q r = 0) (h : 1 ≤ n ∧ n ≤ 100) : okP (onR q r n) = true := by
  unfold okP
  simp only [Bool.and_eq_true, beq_iff_eq, decide_eq_true_eq]
  exact ⟨⟨hr, h.1⟩, by show n ≤ _; omega⟩
/-- The windows of this chapter's laws: numbers of one ring. -/
def jOf (q r : Int) (S : Int → Bool) : Int → Option Dt := fun k => if S k then some (onR q r k) else none
def ins (S : Int → Bool) (k : Int) : Int → Bool := fun i => S i || i == k
theorem jOf_some {q r : Int} {S : Int → Bool} {k : Int} : (jOf q r S k).isSome = S k := by unfold jOf; cases S k <;> rfl
theorem jOf_none {q r : Int} : jOf q r (fun _ => false) = fun _ => none := rfl
theorem jOf_ins {q r : Int} {S : Int → Bool} {k : Int} : (if (jOf q r S k).isSome then jOf q r S else upd (jOf q r S) k (some (onR q r k))) = jOf q r (ins S k) := by
  rw [jOf_some]
  funext i
  cases h : S k with
  | true =>
    simp only [if_true, jOf, ins]
    by_cases e : i = k
    · subst e; simp [h]
    · simp [e]
  | false =>
    simp only [Bool.false_eq_true, if_false, jOf, ins, upd]
    by_cases e : i = k
    · subst e; simp
    · simp [e]
theorem pJ_j {q r : Int} {S : Int → Bool} {k : Int} (hr : cr q r = 0) (hk : 1 ≤ k ∧ k ≤ 100) : pF (jOf q r S) (onR q r k) = !S k ∧ pE (onR q r k) = 0 ∧ pJ (jOf q r S) (onR q r k) = jOf q r (ins S k) := by
  have ho := okP_onR hr hk
  have hF : pF (jOf q r S) (onR q r k) = !S k := by
    unfold pF
    rw [ho, show (onR q r k).n = k from rfl, jOf_some]
    rfl
  refine ⟨hF, by rw [pE, ho]; rfl, ?_⟩
  rw [← jOf_ins, pJ, hF, jOf_some]
  cases S k <;> rfl
theorem Put_j {w : World} {p : Nat} {X : Nat → Prop} {q r : Int} {S : Int → Bool} {a h : Int} {n : Nat} (hw : Wn w p X (jOf q r S) a h n) (hr : cr q r = 0) (k : Int) (hk : 1 ≤ k ∧ k ≤ 100) (v : Value) (hv : Sl w v [k]) (hN : n < 1000000000000) :
    Calls Try.prog 8 #[.pointer (some ⟨p, 0, none⟩), dv (onR q r k) v] w fun e w' => ∃ X' a', e = .returned (.tuple #[.bool (!S k), .int .i64 0]) ∧ Wn w' p X' (jOf q r (ins S k)) a' (if S k then h else max h k) (n + 1) ∧ Mod X w w' ∧ Gone w X X' := by
  refine (Put_any hw (onR q r k) v hv (by simp [onR]) hN).mono ?_
  rintro e w' ⟨X', a', rfl, h1, _, h3, h4⟩
  obtain ⟨e1, e2, e3⟩ := pJ_j (S := S) hr hk
  rw [e3, show pH (jOf q r S) h (onR q r k) = if S k then h else max h k by rw [pH, e1]; cases S k <;> rfl] at h1
  exact ⟨X', a', by rw [e1, e2], h1, h3, h4⟩
theorem Take_j {w : World} {p : Nat} {X : Nat → Prop} {q r : Int} {S : Int → Bool} {a h : Int} {n : Nat} (hw : Wn w p X (jOf q r S) a h n) (hq : isr q r = true) (hr : cr q r = 0) (k : Int) (hk : 1 ≤ k ∧ k ≤ 100) (oq oR : Int) (v : Value) (hv : Sl w v (oldm (onR q r k)).body) (hN : n < 1000000000000) :
    Calls Try.prog 13 #[.pointer (some ⟨p, 0, none⟩), .agg #[.int .i64 oq, .int .i64 oR], mvl (oldm (onR q r k)) v] w fun e w' => ∃ X' a', e = .returned (.tuple #[.bool ((decide (q = oq) && decide (r = oR)) && !S k), .int .i64 0]) ∧ Wn w' p X' (jOf q r (if decide (q = oq) && decide (r = oR) then ins S k else S)) a' (if (decide (q = oq) && decide (r = oR)) && !S k then max h k else h) (n + 1) ∧ Mod X w w' ∧ Gone w X X' := by
  refine (Take_w hw oq oR _ v hv hN).mono ?_
  rintro e w' ⟨X', a', rfl, h1, _, h3, h4⟩
  obtain ⟨i1, i2⟩ := in_old (olD_onR hq hk)
  have hR : tkR (oldm (onR q r k)) oq oR = (decide (q = oq) && decide (r = oR)) := rfl
  obtain ⟨e1, e2, e3⟩ := pJ_j (S := S) hr hk
  have hY : tkY (oldm (onR q r k)) oq oR = (decide (q = oq) && decide (r = oR)) := by rw [tkY, i1, hR]; rfl
  have eB : tkB (jOf q r S) (oldm (onR q r k)) oq oR = ((decide (q = oq) && decide (r = oR)) && !S k) := by rw [tkB, hY, i2, e1]
  have eE : tkE (oldm (onR q r k)) oq oR = 0 := by
    rw [tkE, i1, i2, e2]
    simp
  have eJ : tkJ (jOf q r S) (oldm (onR q r k)) oq oR = jOf q r (if decide (q = oq) && decide (r = oR) then ins S k else S) := by
    rw [tkJ, hY, i2, e3]
    cases decide (q = oq) && decide (r = oR) <;> rfl
  have eH : tkH (jOf q r S) h (oldm (onR q r k)) oq oR = if (decide (q = oq) && decide (r = oR)) && !S k then max h k else h := by
    rw [tkH, hY, i2, pH, e1]
    cases decide (q = oq) && decide (r = oR) <;> cases S k <;> rfl
  rw [eJ, eH] at h1
  exact ⟨X', a', by rw [eB, eE], h1, h3, h4⟩
/-- Numbers above low, rising. -/
structure Kz (S : Int → Bool) (low : Int) (zs : List Int) : Prop where
  up : zs.Pairwise (· < ·)
  mem : ∀ x, x ∈ zs ↔ (low < x ∧ S x = true)
theorem Kz.uniq {S : Int → Bool} {low : Int} {a b : List Int} (ha : Kz S low a) (hb : Kz S low b) : a = b := sorted_eq ha.up hb.up fun x => by rw [ha.mem, hb.mem]
theorem snt_j {q r : Int} (hq : isr q r = true) : ∀ zs : List Int, (∀ k ∈ zs, 1 ≤ k ∧ k ≤ 100) → snt (zs.map (onR q r)) = zs.map (fun k => oldm (onR q r k))
  | [], _ => rfl
  | k :: zs, h => by
    have := snt_j hq zs (fun x hx => h x (List.mem_cons_of_mem _ hx))
    have h0 := olD_onR hq (h k (List.mem_cons_self ..))
    simp only [snt, List.map_cons, List.filter_cons, h0, beq_self_eq_true, if_true] at this ⊢
    rw [this]
theorem New_j {w : World} {p : Nat} {X : Nat → Prop} {q r : Int} {S : Int → Bool} {a h : Int} {n : Nat} (hw : Wn w p X (jOf q r S) a h n) (hq : isr q r = true) (hS : ∀ k, S k = true → 1 ≤ k ∧ k ≤ 100) (hn : n ≤ 1000000) (low : Int) : Calls Try.prog 10 #[.pointer (some ⟨p, 0, none⟩), .int .i64 low] w fun e w' => ∃ b zs, e = .returned (.tuple #[.pointer (some ⟨b, 0, none⟩), .int .i64 0]) ∧ Kz S low zs ∧ Rg w' b (fun i => w.heap.size ≤ i ∧ i < w'.heap.size) (zs.map (fun k => oldm (onR q r k))) ∧ Mod (fun _ => False) w w' := by
  refine (New_w hw hn low).mono ?_
  rintro e w' ⟨b, zs, rfl, hk, _, hg, hm⟩
  have hmem : ∀ x, x ∈ zs ↔ (low < x ∧ S x = true) := fun x => by rw [hk.mem, jOf_some]
  have hz : ∀ k ∈ zs, 1 ≤ k ∧ k ≤ 100 := fun k h => hS k ((hmem k).1 h).2
  have he : zs.map (fun k => (jOf q r S k).getD d0) = zs.map (onR q r) := List.map_congr_left fun k h => by
    simp [jOf, ((hmem k).1 h).2]
  rw [he, snt_j hq zs hz] at hg
  exact ⟨b, zs, rfl, ⟨hk.up, hmem⟩, hg, hm⟩
theorem Above_j {w : World} {p : Nat} {X : Nat → Prop} {q r : Int} {S : Int → Bool} {a h : Int} {n : Nat} (hw : Wn w p X (jOf q r S) a h n) (hn : n ≤ 1000000) (low : Int) : Calls Try.prog 17 #[.pointer (some ⟨p, 0, none⟩), .int .i64 low] w fun e w' => ∃ v ds zs, e = .returned v ∧ Rd18 w' w.heap.size v ds ∧ Kz S low zs ∧ ds.map (·.1) = zs.map (onR q r) ∧ zs.length ≤ n ∧ Mod (fun _ => False) w w' := by
  refine (Above_w hw hn low).mono ?_
  rintro e w' ⟨v, ds, zs, rfl, hR, hk, hmap, hl, hm⟩
  have hmem : ∀ x, x ∈ zs ↔ (low < x ∧ S x = true) := fun x => by rw [hk.mem, jOf_some]
  have he : zs.map (fun k => (jOf q r S k).getD d0) = zs.map (onR q r) := List.map_congr_left fun k h => by
    simp [jOf, ((hmem k).1 h).2]
  exact ⟨v, ds, zs, rfl, hR, ⟨hk.up, hmem⟩, by rw [hmap, he], hl, hm⟩
end Go.Proofs.Ythiijonmnebjgaa
