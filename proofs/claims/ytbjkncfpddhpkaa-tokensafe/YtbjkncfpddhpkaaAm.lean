/- TokenSafe: each node has all up to the lesser one of the Aru with which the token left a node, and the one with which it comes to it now; of every number of nodes and list of visits, as the statement says it. No conditions. -/
import Derived.Test.YtbjkncfpddhpkaaAk
import Derived.Test.YtbjkncfpddhpkaaAn
namespace Go.Proofs.Ytbjkncfpddhpkaa
open Go.RowKit
def tk0 (hp sq A L : Int) : Tk := ⟨1, 1, hp, sq, A, L, 0, 0, []⟩
/-- Where all lies: the token's block, three arrays. -/
structure Zb (Z : Nat → Prop) (bt ba bl bs : Nat) : Prop where
  z : Z ba ∧ Z bl ∧ Z bs
  t : bt ≠ ba ∧ bt ≠ bl ∧ bt ≠ bs
  a : ba ≠ bl ∧ ba ≠ bs ∧ bl ≠ bs
/-- The token and the arrays, as they lie. -/
structure Sm (w0 w : World) (Z : Nat → Prop) (bt ba bl bs : Nat) (t : Tk) (aru lf sf : Nat → Int) : Prop where
  tz : Tz w0 w Z bt t
  ok : okT t = true
  ar : Ar w ba aru
  lef : Ar w bl lf
  saf : Ar w bs sf
  zb : Zb Z bt ba bl bs
theorem Sm.keep {w0 w w' : World} {Z : Nat → Prop} {bt ba bl bs : Nat} {t : Tk} {aru lf sf : Nat → Int} (h : Sm w0 w Z bt ba bl bs t aru lf sf) (hm : Mod (fun _ => False) w w') : Sm w0 w' Z bt ba bl bs t aru lf sf :=
  ⟨h.tz.keep hm, h.ok, h.ar.mod hm (fun h => h), h.lef.mod hm (fun h => h), h.saf.mod hm (fun h => h), h.zb⟩
theorem Sm.seta {w0 w : World} {Z : Nat → Prop} {bt ba bl bs : Nat} {t : Tk} {aru lf sf : Nat → Int} (h : Sm w0 w Z bt ba bl bs t aru lf sf) {k : Nat} (hk : k < 8) (v : Int) : Sm w0 (w.setCell ⟨ba, k, none⟩ (.int .i64 v)) Z bt ba bl bs t (fun j => if j = k then v else aru j) lf sf :=
  ⟨h.tz.put k _ h.zb.z.1 h.zb.t.1, h.ok, h.ar.set hk v, h.lef.other _ _ h.zb.a.1, h.saf.other _ _ h.zb.a.2.1, h.zb⟩
theorem Sm.setl {w0 w : World} {Z : Nat → Prop} {bt ba bl bs : Nat} {t : Tk} {aru lf sf : Nat → Int} (h : Sm w0 w Z bt ba bl bs t aru lf sf) {k : Nat} (hk : k < 8) (v : Int) : Sm w0 (w.setCell ⟨bl, k, none⟩ (.int .i64 v)) Z bt ba bl bs t aru (fun j => if j = k then v else lf j) sf :=
  ⟨h.tz.put k _ h.zb.z.2.1 h.zb.t.2.1, h.ok, h.ar.other _ _ (fun e => h.zb.a.1 e.symm), h.lef.set hk v, h.saf.other _ _ h.zb.a.2.2, h.zb⟩
theorem Sm.sets {w0 w : World} {Z : Nat → Prop} {bt ba bl bs : Nat} {t : Tk} {aru lf sf : Nat → Int} (h : Sm w0 w Z bt ba bl bs t aru lf sf) {k : Nat} (hk : k < 8) (v : Int) : Sm w0 (w.setCell ⟨bs, k, none⟩ (.int .i64 v)) Z bt ba bl bs t aru lf (fun j => if j = k then v else sf j) :=
  ⟨h.tz.put k _ h.zb.z.2.2 h.zb.t.2.2, h.ok, h.ar.other _ _ (fun e => h.zb.a.2.1 e.symm), h.lef.other _ _ (fun e => h.zb.a.2.2 e.symm), h.saf.set hk v, h.zb⟩
/-- The token is turned. -/
theorem Sm.tset {w0 w w' : World} {Z : Nat → Prop} {bt ba bl bs : Nat} {t t' : Tk} {aru lf sf : Nat → Int} (h : Sm w0 w Z bt ba bl bs t aru lf sf) (ht : Tz w0 w' Z bt t') (hm : Mod (fun i => i = bt) w w') (hok : okT t' = true) : Sm w0 w' Z bt ba bl bs t' aru lf sf :=
  ⟨ht, hok, h.ar.mod hm (fun e => h.zb.t.1 e.symm), h.lef.mod hm (fun e => h.zb.t.2.1 e.symm), h.saf.mod hm (fun e => h.zb.t.2.2 e.symm), h.zb⟩
/-- Its Seq is set. -/
theorem Sm.setq {w0 w : World} {Z : Nat → Prop} {bt ba bl bs : Nat} {hp sq A L : Int} {aru lf sf : Nat → Int} (h : Sm w0 w Z bt ba bl bs (tk0 hp sq A L) aru lf sf) (s : Int) (h1 : sq ≤ s) (h2 : s ≤ 9007199254740991) : Sm w0 (w.setCell ⟨bt, 3, none⟩ (.int .i64 s)) Z bt ba bl bs (tk0 hp s A L) aru lf sf := by
  have hm := (Mod.refl (fun i => i = bt) w).setCell ⟨bt, 3, none⟩ (.int .i64 s) (.inl rfl)
  obtain ⟨ao, cap, g1, g2, g3⟩ := h.tz.tok
  exact h.tset (h.tz.tset (t' := tk0 hp s A L) (ao := ao) (cap := cap) hm (g1.set 3 (.int .i64 s)) g2 g3) hm (okT_seq (t := tk0 hp sq A L) h.ok h1 h2)
/-- How it stands ahead of visit i. -/
structure Sz (w0 w : World) (Z : Nat → Prop) (bt ba bl bs n i : Nat) (sq A L : Int) (aru lf sf : Nat → Int) : Prop where
  sm : Sm w0 w Z bt ba bl bs (tk0 ((i : Int) + 1) sq A L) aru lf sf
  pl : Sf n i sq A L aru lf
  sa : ∀ k j, k < n → j < n → sf k ≤ aru j
  top : sq ≤ 3 * (i : Int)
theorem Sz.keep {w0 w w' : World} {Z : Nat → Prop} {bt ba bl bs n i : Nat} {sq A L : Int} {aru lf sf : Nat → Int} (h : Sz w0 w Z bt ba bl bs n i sq A L aru lf sf) (hm : Mod (fun _ => False) w w') : Sz w0 w' Z bt ba bl bs n i sq A L aru lf sf := ⟨h.sm.keep hm, h.pl, h.sa, h.top⟩
/-- A node gets more. -/
theorem Sz.get {w0 w : World} {Z : Nat → Prop} {bt ba bl bs n i : Nat} {sq A L : Int} {aru lf sf : Nat → Int} (h : Sz w0 w Z bt ba bl bs n i sq A L aru lf sf) {k : Nat} (hk : k < n) (h8 : k < 8) (d : Int) (hd : 0 ≤ d) : Sz w0 (w.setCell ⟨ba, k, none⟩ (.int .i64 (min sq (aru k + d)))) Z bt ba bl bs n i sq A L (fun j => if j = k then min sq (aru k + d) else aru j) lf sf := by
  have h1 := h.pl.le k hk
  refine ⟨h.sm.seta h8 _, h.pl.rise k _ (fun _ => by omega) (by omega), fun a j ha hj => ?_, h.top⟩
  have h2 := h.sa a j ha hj
  show sf a ≤ (if j = k then min sq (aru k + d) else aru j)
  split
  · rename_i e
    subst e
    omega
  · exact h2
/-- What is safe is told. -/
theorem Sz.told {w0 w : World} {Z : Nat → Prop} {bt ba bl bs n i : Nat} {sq A L : Int} {aru lf sf : Nat → Int} (h : Sz w0 w Z bt ba bl bs n i sq A L aru lf sf) {k : Nat} (hk : k = i % n) (h8 : k < 8) : Sz w0 (w.setCell ⟨bs, k, none⟩ (.int .i64 (max (sf k) (min (lf k) A)))) Z bt ba bl bs n i sq A L aru lf (fun j => if j = k then max (sf k) (min (lf k) A) else sf j) := by
  subst hk
  refine ⟨h.sm.sets h8 _, h.pl, fun a j ha hj => ?_, h.top⟩
  have h2 := h.sa a j ha hj
  have h3 := h.pl.safe hj
  show (if a = i % n then max (sf (i % n)) (min (lf (i % n)) A) else sf a) ≤ aru j
  split
  · rename_i e
    subst e
    omega
  · exact h2
/-- Ahead of the visit itself: Seq is s, the node has a. -/
structure Sy (w0 w : World) (Z : Nat → Prop) (bt ba bl bs i k : Nat) (s A L : Int) (aru lf sf : Nat → Int) : Prop where
  ex : ∃ a, aru k ≤ a ∧ a ≤ s ∧ Sm w0 w Z bt ba bl bs (tk0 ((i : Int) + 1) s A L) (fun j => if j = k then a else aru j) lf sf
theorem and_rng (x : Int) (y : Nat) (hy : y < 2 ^ 63) : 0 ≤ bits .and .i64 x y ∧ bits .and .i64 x y ≤ y := by
  have e : ((BitVec.ofInt 64 x &&& BitVec.ofInt 64 (y : Int)).toNat) = (x % 2 ^ 64).toNat &&& y := by
    rw [BitVec.toNat_and, BitVec.toNat_ofInt, BitVec.toNat_ofInt]
    congr 1
    omega
  have hle : (x % 2 ^ 64).toNat &&& y ≤ y := Nat.and_le_right
  have e2 : bits .and .i64 x y = (((x % 2 ^ 64).toNat &&& y : Nat) : Int) := by
    show IntKind.i64.wrap ((BitVec.ofInt 64 x &&& BitVec.ofInt 64 (y : Int)).toNat : Nat) = _
    rw [e, IntKind.wrap_i64]
    omega
  rw [e2]
  generalize (x % 2 ^ 64).toNat &&& y = g at hle
  omega
theorem lf_next (i : Nat) : (fun j => if j = i then (-1 : Int) else (fun j => if j < i then (-1 : Int) else 0) j) = (fun j => if j < i + 1 then (-1 : Int) else 0) := by
  funext j
  show (if j = i then (-1 : Int) else if j < i then -1 else 0) = if j < i + 1 then -1 else 0
  rcases Nat.lt_trichotomy j i with h | h | h
  · rw [if_neg (by omega), if_pos h, if_pos (by omega)]
  · rw [if_pos h, if_pos (by omega)]
  · rw [if_neg (by omega), if_neg (by omega), if_neg (by omega)]
set_option maxRecDepth 100000 in
set_option maxHeartbeats 40000000 in
theorem safe_walk (nn : Int) (v1 : Value) (l : List Int) (w : World) (hn : I64 nn) (hl : Si w v1 l) : Calls Try.prog 4 #[.int .i64 nn, v1] w fun e w' => e = .returned (.bool true) ∧ Mod (fun _ => False) w w' := by
  have HL : Hid (Si w v1 l) := hl
  obtain ⟨av, cv, rfl, hlc, hcm, hcn, hfm⟩ := hl.form
  clear hfm hcn hl
  have HC : Hid (∃ b off, l ≠ [] → av = some ⟨b, off, none⟩ ∧ ∀ wx, Mod (fun _ => False) w wx → ∀ i, i < l.length → wx.cell? ⟨b, off + i, none⟩ = some (.int .i64 (l.getD i 0))) := by
    obtain ⟨av', cv', e, _, _, _, hfm⟩ := HL.out.form
    cases e
    by_cases hne : l = []
    · exact ⟨0, 0, fun h => absurd hne h⟩
    · obtain ⟨b, off, rfl, hc⟩ := hfm hne
      exact ⟨b, off, fun _ => ⟨rfl, fun wx hm i hi => hm.cell (hc i hi) (fun h => h)⟩⟩
  go_enter Try.func4, Try.ntmps4
  go_wp2_with (fail)
  refine (awake_any _).mono ?_
  rintro e w1 ⟨rfl, hm1⟩
  go_wp2_with (fail)
  refine (bring nn 8 _ (by omega) (by omega) hn).mono ?_
  rintro e w2 ⟨rfl, rfl⟩
  have hz := br_rng nn 8 (by omega)
  obtain ⟨z, ez⟩ : ∃ z, z = br nn (8 : Nat) := ⟨_, rfl⟩
  rw [← ez] at hz ⊢
  obtain ⟨n, hnz⟩ : ∃ n : Nat, 1 + z = (n : Int) := ⟨(1 + z).toNat, by omega⟩
  have HN : Hid (1 ≤ n ∧ n ≤ 8) := ⟨by omega, by omega⟩
  obtain ⟨hz0, hz1⟩ : 0 ≤ z ∧ z < 8 := by omega
  have hn0 : ¬ (n : Int) = 0 := by have := HN.out; omega
  have hn1 : (1 : Int) ≤ (n : Int) := by have := HN.out; omega
  have hn8 : (n : Int) ≤ 8 := by have := HN.out; omega
  clear hz ez hn
  go_wp2_with (fail)
  refine (tNew_ok 1 1 0 w2 (by decide)).mono ?_
  rintro e w3 ⟨rfl, hm3⟩
  have HM3 : Hid (Mod (fun _ => False) w w3) := hm1.and hm3
  have hZ : Hid (Bk _ _ _ _) := Bk.new w3 #[.int .i64 0, .int .i64 0, .int .i64 0, .int .i64 0, .int .i64 0, .int .i64 0, .int .i64 0, .int .i64 0, .slice none 0 0] 26
  have hA := (Mod.refl (fun _ => False) w3).alloc (.cells #[.int .i64 0, .int .i64 0, .int .i64 0, .int .i64 0, .int .i64 0, .int .i64 0, .int .i64 0, .int .i64 0, .slice none 0 0] 26)
  clear hm1 hm3
  go_upto_region 7 with (refine wpList_store_row infoT rfl rfl _ _ rfl w3.heap.size #[.int .i64 1, .int .i64 1, .int .i64 1, .int .i64 0, .int .i64 0, .int .i64 0, .int .i64 0, .int .i64 0, .slice none 0 0] rfl rfl hZ.out rfl rfl rfl ?_; intro wF hBF hMF)
  obtain ⟨bt, hbt⟩ : ∃ bt, bt = w3.heap.size := ⟨_, rfl⟩
  rw [← hbt] at hBF hMF ⊢
  have HT : Hid (Bk wF bt 26 #[.int .i64 1, .int .i64 1, .int .i64 1, .int .i64 0, .int .i64 0, .int .i64 0, .int .i64 0, .int .i64 0, .slice none 0 0]) := hBF
  have HMF : Hid (Mod (fun _ => False) w wF) := HM3.out.and (hA.trans hMF (V := fun _ => False) (fun _ _ h => h) (fun i hi h => by omega))
  have HBT : Hid (w.heap.size ≤ bt ∧ bt < wF.heap.size) := ⟨by rw [hbt]; exact HM3.out.size, hBF.lt⟩
  clear hbt hBF hMF hA hZ HM3
  have HS0 : Hid (Sm w (((wF.alloc (.cells #[.int .i64 0, .int .i64 0, .int .i64 0, .int .i64 0, .int .i64 0, .int .i64 0, .int .i64 0, .int .i64 0] 41)).alloc (.cells #[.int .i64 0, .int .i64 0, .int .i64 0, .int .i64 0, .int .i64 0, .int .i64 0, .int .i64 0, .int .i64 0] 41)).alloc (.cells #[.int .i64 0, .int .i64 0, .int .i64 0, .int .i64 0, .int .i64 0, .int .i64 0, .int .i64 0, .int .i64 0] 41)) (fun i => i = bt ∨ i = wF.heap.size ∨ i = wF.heap.size + 1 ∨ i = wF.heap.size + 2) bt wF.heap.size (wF.heap.size + 1) (wF.heap.size + 2) (tk0 1 0 0 0) (fun _ => 0) (fun j => if j < 0 then -1 else 0) (fun _ => 0)) := by
    have q1 := Ar.new wF
    have q2 := Ar.new (wF.alloc (.cells #[.int .i64 0, .int .i64 0, .int .i64 0, .int .i64 0, .int .i64 0, .int .i64 0, .int .i64 0, .int .i64 0] 41))
    have q3 := Ar.new ((wF.alloc (.cells #[.int .i64 0, .int .i64 0, .int .i64 0, .int .i64 0, .int .i64 0, .int .i64 0, .int .i64 0, .int .i64 0] 41)).alloc (.cells #[.int .i64 0, .int .i64 0, .int .i64 0, .int .i64 0, .int .i64 0, .int .i64 0, .int .i64 0, .int .i64 0] 41))
    have m1 := fun (W : World) => (Mod.refl (fun _ => False) W).alloc (.cells #[.int .i64 0, .int .i64 0, .int .i64 0, .int .i64 0, .int .i64 0, .int .i64 0, .int .i64 0, .int .i64 0] 41)
    have s0 := HMF.out.size
    obtain ⟨b1, b2⟩ := HBT.out
    have M := ((m1 wF).and (m1 _)).and (m1 _)
    have e1 : (wF.alloc (.cells #[.int .i64 0, .int .i64 0, .int .i64 0, .int .i64 0, .int .i64 0, .int .i64 0, .int .i64 0, .int .i64 0] 41)).heap.size = wF.heap.size + 1 := by simp
    have e2 : ((wF.alloc (.cells #[.int .i64 0, .int .i64 0, .int .i64 0, .int .i64 0, .int .i64 0, .int .i64 0, .int .i64 0, .int .i64 0] 41)).alloc (.cells #[.int .i64 0, .int .i64 0, .int .i64 0, .int .i64 0, .int .i64 0, .int .i64 0, .int .i64 0, .int .i64 0] 41)).heap.size = wF.heap.size + 2 := by simp
    rw [e1] at q2
    rw [e2] at q3
    refine ⟨⟨⟨none, 0, HT.out.mod M (fun h => h), nilSl _, fun h => absurd rfl h⟩, fun i hi => ?_, .inl rfl, HMF.out.and M⟩, by decide, (q1.mod (m1 _) (fun h => h)).mod (m1 _) (fun h => h), ?_, q3, ⟨⟨.inr (.inl rfl), .inr (.inr (.inl rfl)), .inr (.inr (.inr rfl))⟩, ⟨by omega, by omega, by omega⟩, ⟨by omega, by omega, by omega⟩⟩⟩
    · simp
      omega
    · have := q2.mod (m1 _) (fun h => h)
      simpa using this
  clear HT
  go_wp2_with (fail)
  clear hnz hz0 hz1
  obtain ⟨bs, ebs⟩ : ∃ bs, bs = wF.heap.size + 2 := ⟨_, rfl⟩
  rw [← ebs] at HS0
  go_loopw [11] (fun ci wr => ∃ (i : Nat), ci = .int .i64 (i : Int) ∧ i ≤ n ∧ Hid (Sm w wr (fun i => i = bt ∨ i = wF.heap.size ∨ i = wF.heap.size + 1 ∨ i = bs) bt wF.heap.size (wF.heap.size + 1) bs (tk0 1 0 0 0) (fun _ => 0) (fun j => if j < i then -1 else 0) (fun _ => 0))) (fun ci _ => n - (intOf ci).toNat)
  case atStart => exact ⟨0, rfl, Nat.zero_le _, HS0⟩
  case round =>
    clear HS0
    obtain ⟨i, rfl, hi, hS⟩ := hrel
    obtain ⟨bl, ebl⟩ : ∃ bl, bl = wF.heap.size + 1 := ⟨_, rfl⟩
    obtain ⟨ba, eba⟩ : ∃ ba, ba = wF.heap.size := ⟨_, rfl⟩
    have e2 : wF.heap.size + 1 + 1 = bs := by omega
    try rw [e2]
    have HBS : Hid (bs = wF.heap.size + 2) := ebs
    rw [← ebl, ← eba] at hS ⊢
    clear ebs ebl eba e2
    generalize (fun i => i = bt ∨ i = ba ∨ i = bl ∨ i = bs) = Z at *
    by_cases hlt : (i : Int) < (n : Int)
    · have hi8 : (i : Int) < 8 := by omega
      have hi0 : (0 : Int) ≤ (i : Int) := by omega
      have HI8 : Hid (i < 8 ∧ i < n) := ⟨by omega, by omega⟩
      have cl := hS.out.lef.cell HI8.out.1
      have fl := hS.out.lef.frz i
      have HZ : Hid (Sm w (wr.setCell ⟨bl, i, none⟩ (.int .i64 (-1))) Z bt ba bl bs (tk0 1 0 0 0) (fun _ => 0) (fun j => if j < i + 1 then -1 else 0) (fun _ => 0)) := by
        have := hS.out.setl HI8.out.1 (-1)
        rw [lf_next] at this
        exact this
      clear hS
      go_wp2_with (fail)
      go_roundw
      case rel => exact ⟨i + 1, by go_num, HI8.out.2, HZ⟩
      case measure =>
        have := HI8.out.2
        simp [intOf]
        omega
    · obtain rfl : i = n := by omega
      have HZ0 : Hid (Sz w wr Z bt ba bl bs i 0 0 0 0 (fun _ => 0) (fun j => if j < i then -1 else 0) (fun _ => 0)) := ⟨hS.out, Sf.start (by have := HN.out; omega) (fun j hj => if_pos hj), fun _ _ _ _ => Int.le_refl _, by omega⟩
      clear hS hlt hi
      generalize i = n at *
      go_wp2_with (fail)
      go_loopw [12] (fun ci wr => ∃ (i : Nat) (sq A L : Int) (aru lf sf : Nat → Int), ci = .int .i64 (i : Int) ∧ i ≤ l.length ∧ i ≤ 200 ∧ Hid (Sz w wr Z bt ba bl bs n i sq A L aru lf sf)) (fun ci _ => l.length - (intOf ci).toNat)
      case atStart => exact ⟨0, 0, 0, 0, _, _, _, rfl, Nat.zero_le _, by decide, HZ0⟩
      case round =>
        clear HZ0
        obtain ⟨i, sq, A, L, aru, lf, sf, rfl, hil, hi2, hS⟩ := hrel
        by_cases hjl : i < l.length
        · have hjl' : (i : Int) < (l.length : Int) := by omega
          by_cases hjc : i < 200
          · have hjc' : (i : Int) < 200 := by omega
            have hi0 : (0 : Int) ≤ (i : Int) := by omega
            obtain ⟨b, off, hcs0⟩ := HC.out
            obtain ⟨rfl, hcs⟩ := hcs0 (by intro e; rw [e] at hjl; simp at hjl)
            have c1 := hcs wr hS.out.sm.tz.mod i hjl
            clear hcs hcs0
            generalize l.getD i 0 = x at c1
            obtain ⟨y, hy⟩ : ∃ y, bits .and .i64 x 65535 = y := ⟨_, rfl⟩
            obtain ⟨hy0, hy1⟩ : 0 ≤ y ∧ y ≤ 65535 := hy ▸ and_rng x 65535 (by decide)
            obtain ⟨d1, hd1⟩ : ∃ d, bits .and .i64 y 3 = d := ⟨_, rfl⟩
            obtain ⟨d10, d11⟩ : 0 ≤ d1 ∧ d1 ≤ 3 := hd1 ▸ and_rng y 3 (by decide)
            obtain ⟨d2, hd2⟩ : ∃ d, bits .and .i64 (y / 4) 3 = d := ⟨_, rfl⟩
            obtain ⟨d20, d21⟩ : 0 ≤ d2 ∧ d2 ≤ 3 := hd2 ▸ and_rng (y / 4) 3 (by decide)
            obtain ⟨d3, hd3⟩ : ∃ d, bits .and .i64 (y / 128) 3 = d := ⟨_, rfl⟩
            obtain ⟨d30, d31⟩ : 0 ≤ d3 ∧ d3 ≤ 3 := hd3 ▸ and_rng (y / 128) 3 (by decide)
            obtain ⟨j0, hj0⟩ : ∃ d, bits .and .i64 (y / 16) 7 = d := ⟨_, rfl⟩
            obtain ⟨j00, j01⟩ : 0 ≤ j0 ∧ j0 ≤ 7 := hj0 ▸ and_rng (y / 16) 7 (by decide)
            obtain ⟨k, hk⟩ : ∃ k : Nat, k = i % n := ⟨_, rfl⟩
            have HK : Hid (k = i % n) := hk
            have hkn : k < n := by rw [hk]; exact Nat.mod_lt _ (by have := HN.out; omega)
            have hmod : (i : Int).tmod (n : Int) = (k : Int) := by rw [Int.tmod_eq_emod_of_nonneg (by omega), hk]; omega
            have hk8 : (k : Int) < 8 := by have := HN.out; omega
            have hk0 : (0 : Int) ≤ (k : Int) := by omega
            have HK8 : Hid (k < 8 ∧ k < n) := ⟨by have := HN.out; omega, hkn⟩
            obtain ⟨jn, hjn⟩ : ∃ jn : Nat, j0.tmod (n : Int) = (jn : Int) := ⟨(j0.tmod (n : Int)).toNat, by rw [Int.tmod_eq_emod_of_nonneg j00]; have := Int.emod_nonneg j0 hn0; omega⟩
            have HJ8 : Hid (jn < 8 ∧ jn < n) := by
              have h1 : j0.tmod (n : Int) < (n : Int) := by rw [Int.tmod_eq_emod_of_nonneg j00]; exact Int.emod_lt_of_pos _ (by omega)
              have := HN.out
              exact ⟨by omega, by omega⟩
            have HJL : Hid (i < l.length ∧ i < 200) := ⟨hjl, hjc⟩
            clear hk hkn hjl hjc hil hi2
            go_upto_region 17 with (fail)
            go_cut [] (fun wx => Sz w wx Z bt ba bl bs n i sq A L (fun j => if j = k then min sq (aru k + d1) else aru j) lf sf)
            case first =>
              obtain ⟨ao2, cap2, hB, _, _⟩ := hS.out.sm.tz.tok
              have c3 : wr.cell? ⟨bt, 3, none⟩ = some (.int .i64 sq) := hB.cellv (j := 3) rfl
              have ca := hS.out.sm.ar.cell HK8.out.1
              have fa := hS.out.sm.ar.frz k
              have hak := hS.out.pl.le k HK8.out.2
              have htp := hS.out.top
              have hak0 : 0 ≤ aru k := hak.2.1
              have hak1 : aru k ≤ 600 := by omega
              have HD : Hid (0 ≤ d1) := d10
              clear hB hak htp c1 hy hd2 hd3 hj0 hmod hjn
              go_region
              go_wp2
              go_meet
              exact (hS.out.get HK8.out.2 HK8.out.1 d1 HD.out).keep ((Mod.refl _ _).drew)
            case rest =>
            have HS1 : Hid (Sz w wc Z bt ba bl bs n i sq A L (fun j => if j = k then min sq (aru k + d1) else aru j) lf sf) := hcut
            clear hcut hS
            generalize wc = w4 at *
            generalize (fun j => if j = k then min sq (aru k + d1) else aru j) = aru1 at *
            go_upto_region 18 with (fail)
            go_cut [] (fun wx => Sz w wx Z bt ba bl bs n i sq A L aru1 lf (fun j => if j = k then max (sf k) (min (lf k) A) else sf j))
            case first =>
              obtain ⟨ao2, cap2, hB, _, _⟩ := HS1.out.sm.tz.tok
              have c4 : w4.cell? ⟨bt, 4, none⟩ = some (.int .i64 A) := hB.cellv (j := 4) rfl
              have cs := HS1.out.sm.saf.cell HK8.out.1
              have fs := HS1.out.sm.saf.frz k
              have cl := HS1.out.sm.lef.cell HK8.out.1
              have HSF := safe_st (sf k) (lf k) A
              clear hB c1 hy hd1 hd2 hd3 hj0 hmod hjn
              go_region_law (refine step_c3 (fun args w => by simp [go_sem]) (by rfl) _ _ _ (by rfl) (by rfl) _ _ _ (by rfl) (by rfl) (by rfl) _ (HSF _) ?_; rintro r w6 ⟨rfl, rfl⟩)
              all_goals go_wp2
              all_goals go_meet
              all_goals exact (HS1.out.keep ((Mod.refl (fun _ => False) w4).drew)).told HK.out HK8.out.1
            case rest =>
            have HS2 : Hid (Sz w wc Z bt ba bl bs n i sq A L aru1 lf (fun j => if j = k then max (sf k) (min (lf k) A) else sf j)) := hcut
            clear hcut HS1
            generalize wc = w5 at *
            generalize (fun j => if j = k then max (sf k) (min (lf k) A) else sf j) = sf2 at *
            go_upto_block 4 with (fail)
            go_cut [] (fun wx => Sz w wx Z bt ba bl bs n i sq A L aru1 lf sf2)
            case first =>
              go_wp2_with (fail)
              go_loopw [15] (fun cj wr => ∃ (j q : Nat), cj = .int .i64 (j : Int) ∧ j ≤ n ∧ wr = w5.drewN q) (fun cj _ => n - (intOf cj).toNat)
              case atStart => exact ⟨0, 0, rfl, Nat.zero_le _, rfl⟩
              case round =>
                obtain ⟨j, q, rfl, hj, rfl⟩ := hrel
                by_cases hjn2 : j < n
                · have hjn' : (j : Int) < (n : Int) := by omega
                  have hj8 : (j : Int) < 8 := by omega
                  have hjz : (0 : Int) ≤ (j : Int) := by omega
                  have ca := HS2.out.sm.ar.cell (j := j) (by have := HN.out; omega)
                  have cs := HS2.out.sm.saf.cell HK8.out.1
                  have hle : ¬ aru1 j < sf2 k := by have := HS2.out.sa k j HK8.out.2 hjn2; omega
                  have HJN : Hid (j < n) := hjn2
                  clear hy hd1 hd2 hd3 hj0 hmod hjn c1
                  go_wp2
                  go_quiet (fail)
                  go_wp2
                  go_roundw
                  case rel => exact ⟨j + 1, q + nq, by go_num, HJN.out, by simp⟩
                  case measure =>
                    have := HJN.out
                    simp [intOf]
                    omega
                · have hjn' : ¬ (j : Int) < (n : Int) := by omega
                  go_wp2
                  go_meet
                  exact HS2.out.keep ((Mod.refl _ _).drewN q)
            case rest =>
            have HS3 : Hid (Sz w wc Z bt ba bl bs n i sq A L aru1 lf sf2) := hcut
            clear hcut HS2
            generalize wc = w6 at *
            obtain ⟨ao2, cap2, hB6, _, _⟩ := HS3.out.sm.tz.tok
            have c3 : w6.cell? ⟨bt, 3, none⟩ = some (.int .i64 sq) := hB6.cellv (j := 3) rfl
            have f3 := hB6.frz 3
            have htp := HS3.out.top
            have hp6 := okT_parts HS3.out.sm.ok
            have hsq0 : 0 ≤ sq := hp6.2.2.1
            have hsq1 : sq ≤ 600 := by omega
            obtain ⟨s, hs⟩ : ∃ s, sq + d2 = s := ⟨_, rfl⟩
            have HSQ : Hid (sq ≤ s ∧ s ≤ 3 * ((i : Int) + 1) ∧ s ≤ 1000) := ⟨by omega, by omega, by omega⟩
            have hm6 := HS3.out.sm.setq s HSQ.out.1 (by have := HSQ.out; omega)
            have ca := hm6.ar.cell HK8.out.1
            have fa := hm6.ar.frz k
            obtain ⟨ao4, cap4, hB64, _, _⟩ := hm6.tz.tok
            have c34 : (w6.setCell ⟨bt, 3, none⟩ (.int .i64 s)).cell? ⟨bt, 3, none⟩ = some (.int .i64 s) := hB64.cellv (j := 3) rfl
            have HM6 : Hid (Sm w (w6.setCell ⟨bt, 3, none⟩ (.int .i64 s)) Z bt ba bl bs (tk0 ((i : Int) + 1) s A L) aru1 lf sf2) := hm6
            obtain ⟨bq, hbq⟩ : ∃ bq, (aru1 k == sq) = bq := ⟨_, rfl⟩
            have HBQ : Hid ((aru1 k == sq) = bq) := hbq
            have HAK : Hid (aru1 k ≤ sq) := (HS3.out.pl.le k HK8.out.2).2.2
            clear hB6 hB64 hm6 hp6 htp
            go_upto_if 102 with (fail)
            go_cut [] (fun wx => Sy w wx Z bt ba bl bs i k s A L aru1 lf sf2)
            case first =>
              cases bq with
              | true =>
                go_wp2_with (fail)
                go_meet
                have e : aru1 k = sq := by have := HBQ.out; simpa using this
                exact ⟨⟨s, by have := HSQ.out; omega, Int.le_refl _, HM6.out.seta HK8.out.1 s⟩⟩
              | false =>
                go_wp2_with (fail)
                go_meet
                have e : (fun j => if j = k then aru1 k else aru1 j) = aru1 := by
                  funext j
                  split
                  · rename_i h; rw [h]
                  · rfl
                exact ⟨⟨aru1 k, Int.le_refl _, by have := HSQ.out; have := HAK.out; omega, by rw [e]; exact HM6.out⟩⟩
            case rest =>
            obtain ⟨⟨a, ha1, ha2, hm7⟩⟩ := hcut
            generalize wc = w7 at *
            have HA : Hid (aru1 k ≤ a ∧ a ≤ s) := ⟨ha1, ha2⟩
            have HA0 : Hid (0 ≤ a) := Int.le_trans (HS3.out.pl.le k HK8.out.2).2.1 ha1
            have HPL : Hid (Sf n (i + 1) s (vA a (1 + (k : Int)) s A L) (vL a (1 + (k : Int)) s A L) (fun j => if j = k then a else aru1 j) (fun j => if j = k then (vA a (1 + (k : Int)) s A L) else lf j)) := by
              have := HS3.out.pl.step (sq' := s) (a := a) (by have := HN.out; omega) HSQ.out.1 (by rw [← HK.out]; exact ha1) ha2
              rw [← HK.out] at this
              exact this
            have HSA : Hid (∀ q j, q < n → j < n → sf2 q ≤ (fun j => if j = k then a else aru1 j) j) := fun q j hq hj => by
              have h1 := HS3.out.sa q j hq hj
              show sf2 q ≤ if j = k then a else aru1 j
              split
              · rename_i e
                subst e
                exact Int.le_trans h1 ha1
              · exact h1
            clear ha1 ha2 HS3 HM6 c3 f3 ca fa c34 hbq hs hsq0 hsq1 HBQ HAK d20 d21
            have HAE : Hid ((fun j => if j = k then a else aru1 j) k = a) := if_pos rfl
            generalize (fun j => if j = k then a else aru1 j) = aru2 at *
            obtain ⟨ao2, cap2, hB7, hSl7, _⟩ := hm7.tz.tok
            have HB7 : Hid (Bk w7 bt 26 #[.int .i64 1, .int .i64 1, .int .i64 ((i : Int) + 1), .int .i64 s, .int .i64 A, .int .i64 L, .int .i64 0, .int .i64 0, .slice ao2 0 cap2]) := hB7
            have HM7 : Hid (Sm w w7 Z bt ba bl bs (tk0 ((i : Int) + 1) s A L) aru2 lf sf2) := hm7
            have HSL7 : Hid (Cr.Sl w7 (.slice ao2 0 cap2) []) := hSl7
            clear hm7 hB7 hSl7
            go_upto_region 28 with (fail)
            go_cut [] (fun wx => Sm w wx Z bt ba bl bs (tk0 ((i : Int) + 1 + 1) s (vA a (1 + (k : Int)) s A L) (vL a (1 + (k : Int)) s A L)) aru2 lf sf2)
            case first =>
              have HOKV : Hid (okT (tk0 ((i : Int) + 1 + 1) s (vA a (1 + (k : Int)) s A L) (vL a (1 + (k : Int)) s A L)) = true) := okT_visit (t := tk0 ((i : Int) + 1) s A L) (n := 1 + (k : Int)) (a := a) HM7.out.ok (by show (i : Int) + 1 ≠ _; omega) (by have := HK8.out; simp only [nd, decide_eq_true_eq]; omega) HA0.out
              have HG : Hid (∀ W, Mod (fun _ => False) w7.drew W → Calls Try.prog 9 #[.agg #[.int .i64 1, .int .i64 1, .int .i64 ((i : Int) + 1), .int .i64 s, .int .i64 A, .int .i64 L, .int .i64 0, .int .i64 0, .slice ao2 0 cap2], .int .i64 (1 + (k : Int)), .int .i64 a, .slice none 0 0] W fun e w' => ∃ new, e = .returned (.agg new) ∧ (∃ ao3 cap3, new = #[.int .i64 1, .int .i64 1, .int .i64 ((i : Int) + 1 + 1), .int .i64 s, .int .i64 (vA a (1 + (k : Int)) s A L), .int .i64 (vL a (1 + (k : Int)) s A L), .int .i64 0, .int .i64 0, .slice ao3 0 cap3] ∧ ∀ W, Cr.Sl W (.slice ao3 0 cap3) []) ∧ Mod (fun _ => False) W w') := fun W hW => by
                have hd := ((Mod.refl (fun _ => False) w7).drew).and hW
                refine (visit_ok 1 1 ((i : Int) + 1) s A L 0 0 (1 + (k : Int)) a ao2 cap2 [] (.slice none 0 0) [] W (HSL7.out.mod hd (fun _ _ h => h)) (nilSl W) HM7.out.ok (by show (i : Int) + 1 ≠ _; omega) (by have := HK8.out; simp only [nd, decide_eq_true_eq]; omega) HA0.out).mono ?_
                rintro e w' ⟨ao3, cap3, rfl, g1, g2, g3⟩
                refine ⟨_, rfl, ⟨ao3, cap3, rfl, fun W' => ?_⟩, g2⟩
                obtain ⟨ao4, cap4, e4, g4, g5, g6, _⟩ := g1.sl
                cases e4
                exact ⟨ao3, cap3, rfl, g4, g5, g6, fun h => absurd rfl h⟩
              have ca := HM7.out.ar.cell HK8.out.1
              rw [HAE.out] at ca
              have HCA : Hid (w7.cell? ⟨ba, k, none⟩ = some (.int .i64 a)) := ca
              clear hy hd1 hd2 hd3 hj0 hmod hjn ca
              refine region28 bt ba k a #[.int .i64 1, .int .i64 1, .int .i64 ((i : Int) + 1), .int .i64 s, .int .i64 A, .int .i64 L, .int .i64 0, .int .i64 0, .slice ao2 0 cap2] (fun new => ∃ ao3 cap3, new = #[.int .i64 1, .int .i64 1, .int .i64 ((i : Int) + 1 + 1), .int .i64 s, .int .i64 (vA a (1 + (k : Int)) s A L), .int .i64 (vL a (1 + (k : Int)) s A L), .int .i64 0, .int .i64 0, .slice ao3 0 cap3] ∧ ∀ W, Cr.Sl W (.slice ao3 0 cap3) []) ⟨⟨_, rfl, rfl, rfl, rfl, by decide +kernel⟩⟩ ⟨⟨_, rfl, rfl, rfl, rfl, by decide +kernel⟩⟩ ⟨⟨_, rfl, rfl, rfl, rfl, by decide +kernel⟩⟩ ⟨⟨_, rfl, rfl, rfl, rfl, by decide +kernel⟩⟩ ⟨⟨_, rfl, rfl, rfl, rfl, by decide +kernel⟩⟩ ⟨⟨_, rfl, rfl, rfl, rfl, by decide +kernel⟩⟩ ⟨⟨_, rfl, rfl, rfl, rfl, by decide +kernel⟩⟩ ⟨⟨_, rfl, rfl, rfl, rfl, by decide +kernel⟩⟩ rfl (by decide +kernel) rfl (by decide +kernel) rfl rfl rfl rfl HK8.out.1 rfl HB7.out HCA.out (fun new ⟨ao3, cap3, e, _⟩ => by subst e; exact ⟨rfl, rfl⟩) HG.out ?_
              intro y107 y108 y109 y110 y111 y112 y113 new wx ⟨ao3, cap3, en, hsl⟩ hBx hMx
              subst en
              have HFIN : Hid (Sm w wx Z bt ba bl bs (tk0 ((i : Int) + 1 + 1) s (vA a (1 + (k : Int)) s A L) (vL a (1 + (k : Int)) s A L)) aru2 lf sf2) := HM7.out.tset (HM7.out.tz.tset (t' := tk0 ((i : Int) + 1 + 1) s (vA a (1 + (k : Int)) s A L) (vL a (1 + (k : Int)) s A L)) (ao := ao3) (cap := cap3) hMx hBx (hsl _) (fun h => absurd rfl h)) hMx HOKV.out
              clear hBx hMx hsl HG HCA HB7 HM7 HOKV HSL7
              simp only [puts, Act.put, List.setIfInBounds_toArray, List.set_cons_succ, List.set_cons_zero]
              go_wp2
              go_meet
              exact HFIN.out
            case rest =>
            have HM8 : Hid (Sm w wc Z bt ba bl bs (tk0 ((i : Int) + 1 + 1) s (vA a (1 + (k : Int)) s A L) (vL a (1 + (k : Int)) s A L)) aru2 lf sf2) := hcut
            clear hcut HM7 HB7 HSL7
            generalize wc = w8 at *
            have HZ8 : Hid (∀ wx, Sm w wx Z bt ba bl bs (tk0 ((i : Int) + 1 + 1) s (vA a (1 + (k : Int)) s A L) (vL a (1 + (k : Int)) s A L)) aru2 (fun j => if j = k then (vA a (1 + (k : Int)) s A L) else lf j) sf2 → Sz w wx Z bt ba bl bs n (i + 1) s (vA a (1 + (k : Int)) s A L) (vL a (1 + (k : Int)) s A L) aru2 (fun j => if j = k then (vA a (1 + (k : Int)) s A L) else lf j) sf2) := fun wx hx => by
              have e : (((i + 1 : Nat) : Int) + 1) = (i : Int) + 1 + 1 := by omega
              refine ⟨by rw [e]; exact hx, HPL.out, HSA.out, ?_⟩
              have := HSQ.out.2.1
              omega
            obtain ⟨vA2, eA2⟩ : ∃ v, v = (vA a (1 + (k : Int)) s A L) := ⟨_, rfl⟩
            obtain ⟨vL2, eL2⟩ : ∃ v, v = (vL a (1 + (k : Int)) s A L) := ⟨_, rfl⟩
            rw [← eA2, ← eL2] at HM8 HZ8
            clear HPL HSA eA2 eL2 HAE
            obtain ⟨ao5, cap5, hB8, hSl8, _⟩ := HM8.out.tz.tok
            have HB8 : Hid (Bk w8 bt 26 #[.int .i64 1, .int .i64 1, .int .i64 ((i : Int) + 1 + 1), .int .i64 s, .int .i64 vA2, .int .i64 vL2, .int .i64 0, .int .i64 0, .slice ao5 0 cap5]) := hB8
            have HCK : Calls Try.prog 11 #[.agg #[.int .i64 1, .int .i64 1, .int .i64 ((i : Int) + 1 + 1), .int .i64 s, .int .i64 vA2, .int .i64 vL2, .int .i64 0, .int .i64 0, .slice ao5 0 cap5]] w8 fun e w' => e = .returned (.int .i64 0) ∧ Mod (fun _ => False) w8 w' := by
              have := tCheck 1 1 ((i : Int) + 1 + 1) s vA2 vL2 0 0 ao5 cap5 [] w8 hSl8 (by simp)
              rw [show ckT ⟨1, 1, (i : Int) + 1 + 1, s, vA2, vL2, 0, 0, []⟩ = 0 from by unfold ckT; exact if_pos HM8.out.ok] at this
              exact this
            clear hB8 hSl8
            have hhop : (((i : Int) + 1 + 1) != ((i : Int) + 2)) = false := by
              simp only [bne_eq_false_iff_eq]
              omega
            go_wp2_with (refine wpList_load_row infoT Try.underlying26 rfl rfl _ rfl bt rfl HB8.out rfl ?_; simp only [Act.put, List.setIfInBounds_toArray, List.set_cons_succ, List.set_cons_zero])
            refine HCK.mono ?_
            rintro e w9 ⟨rfl, hm9⟩
            have hM9 := HM8.out.keep hm9
            have hB9 := HB8.out.mod hm9 (fun h => h)
            have c2 := hB9.cellv (j := 2) rfl
            have c4 := hB9.cellv (j := 4) rfl
            have cl := hM9.lef.cell HK8.out.1
            have fl := hM9.lef.frz k
            have HZ9 : Hid (Sz w (w9.setCell ⟨bl, k, none⟩ (.int .i64 vA2)) Z bt ba bl bs n (i + 1) s vA2 vL2 aru2 (fun j => if j = k then vA2 else lf j) sf2) := HZ8.out _ (hM9.setl HK8.out.1 vA2)
            clear HCK HM8 HB8 hM9 hm9 hB9
            have hjn8 : (jn : Int) < 8 := by have := HJ8.out; omega
            have hjn0 : (0 : Int) ≤ (jn : Int) := by omega
            go_upto_region 34 with (fail)
            clear c2 c4 cl fl hhop c1 hy hd1 hd2 hj0 hmod hjn
            generalize w9.setCell ⟨bl, k, none⟩ (.int .i64 vA2) = w10 at *
            generalize (fun j => if j = k then vA2 else lf j) = lf2 at *
            obtain ⟨ao6, cap6, hB10, _, _⟩ := HZ9.out.sm.tz.tok
            have c3 : w10.cell? ⟨bt, 3, none⟩ = some (.int .i64 s) := hB10.cellv (j := 3) rfl
            have ca := HZ9.out.sm.ar.cell HJ8.out.1
            have fa := HZ9.out.sm.ar.frz jn
            have hak := HZ9.out.pl.le jn HJ8.out.2
            have hak0 : 0 ≤ aru2 jn := hak.2.1
            have hak1 : aru2 jn ≤ 1000 := by have := HSQ.out.2.2; omega
            have HD3 : Hid (0 ≤ d3) := d30
            clear hB10 hak
            go_region
            go_wp2
            have HZ11 : Hid (Sz w _ Z bt ba bl bs n (i + 1) s vA2 vL2 _ lf2 sf2) := (HZ9.out.get HJ8.out.2 HJ8.out.1 d3 HD3.out).keep ((Mod.refl _ _).drew)
            clear c3 ca fa HZ9
            go_roundw
            case rel => exact ⟨i + 1, _, _, _, _, _, _, by go_num, HJL.out.1, HJL.out.2, HZ11⟩
            case measure =>
              have := HJL.out.1
              simp [intOf]
              omega
          · have hjc' : ¬ (i : Int) < 200 := by omega
            have HM : Hid (Mod (fun _ => False) w wr) := hS.out.sm.tz.mod
            clear hS
            go_wp2_with (fail)
            go_ret
            exact ⟨rfl, HM.out⟩
        · have hjl' : ¬ (i : Int) < (l.length : Int) := by omega
          have HM : Hid (Mod (fun _ => False) w wr) := hS.out.sm.tz.mod
          clear hS
          go_wp2_with (fail)
          go_ret
          exact ⟨rfl, HM.out⟩
namespace tokenSafe
open Go.ChangeShapes Go.WideShapes Go.ChangeAt Go.RowKit
set_option maxRecDepth 100000 in
theorem lifted (os : Os) (started : os.Started) (H : Type) (enc : TypeId × Value → H) :
    ReturnsInHanded {} Try.checked os 4 .any (Rows.tokenSafeSpec.pre6 enc Try.prog Try.f4 Rows.tokenSafeRow.domain false) (Rows.tokenSafeSpec.post enc Try.prog Try.f4 false true false false) := by
  refine returnsInHanded_of_change_sized (C := Try.checked) own started (by kernel_rfl) Try.func4
    (ChangeSpec.witness6 (enc := enc) (C := Try.checked) false ⟨#[], #[.int .i64 0, .slice none 0 0], []⟩ 8 (by kernel_rfl) (by kernel_rfl) (by kernel_rfl) (by kernel_rfl)) ?_
  intro W base args ds gs before hval0 hW hcnd hsz0 _
  have hval : ∀ (j : Nat) t v, Try.f4.params[j]? = some t → args[j]? = some v → Value.okWide Try.prog W .any base t v := hval0
  have hsz : (DataW.weightsEach Try.prog (Try.f4.params.toList ++ Rows.tokenSafeSpec.plain.varTypes Try.prog) (ds ++ gs)).all (· ≤ reachBytes) = true := hsz0
  have hW' := hW
  obtain ⟨p, q, hA0, hV, rfl, hfz, hnd⟩ := hW
  have hA : DataW.TrodAll enc Try.prog W 0 (fun _ => true) true Try.f4.params.toList args.toList ds p := hA0
  rw [Try.params4] at hA hval hsz
  obtain ⟨v0, vs0, d0, ds0, p0, q0, hargs, rfl, rfl, h0, r0⟩ := trodAll_cons hA
  obtain ⟨v1, vs1, d1, ds1, p1, q1, rfl, rfl, rfl, h1, r1⟩ := trodAll_cons r0
  obtain ⟨rfl, rfl, rfl⟩ := trodAll_nil r1
  obtain rfl : args = #[v0, v1] := by cases args; simp_all
  obtain ⟨rfl, rfl⟩ := trodVars_none hV
  obtain ⟨a0, rfl, rfl, rfl, w0⟩ := open_int Try.underlying3 (hval 0 3 v0 rfl rfl) h0
  have k1 := h1
  have lt1 : ∀ x ∈ p1, x.block < W.heap.size := by obtain ⟨m, hm⟩ := k1; exact DataW.trod_lt m _ _ _ hm
  obtain ⟨B1, hB1⟩ := open_l h1 (okWide_slice Try.underlying24 (hval 1 24 v1 rfl rfl))
  clear hA0 hval0
  refine (safe_walk a0 v1 B1 W (i64_of_wf w0) hB1).mono fun e W' ⟨he, hm⟩ => ?_
  subst he
  have bel : Below W.heap.size W W' := hm.below _ (Nat.le_refl _) (fun _ h => h.elim)
  exact ⟨_, rfl, _, _, _, [], _, [], hW', trodAll_mk1 (shut_bool Try.underlying4 _), (trodAll_cons_mk (shut_int Try.underlying3 w0) (trodAll_cons_mk (Below.trod laidOut (by kernel_rfl) (of_decide_eq_true (by kernel_rfl)) k1 bel lt1) trodAll_mk0)), rfl, bel.frame _, fun h => by cases h⟩

theorem over : Rows.tokenSafeRow.holds Try.pinned (OpenSpec.ofChange Rows.tokenSafeSpec) :=
  OpenClaim.holds_of_wide 4 Try.f4 rfl rfl rfl rfl rfl rfl rfl ⟨rfl, rfl, rfl, rfl, rfl⟩ rfl rfl rfl rfl rfl (by kernel_rfl) Try.func4 (by kernel_rfl)
    (of_decide_eq_true (by kernel_rfl)) (by unfold Func.isWrapper; first | (rw [if_pos (by decide +kernel)]; kernel_rfl) | (rw [if_neg (by decide +kernel)]; exact ⟨rfl, rfl⟩))
    (fun os started H enc _ => lifted os started H enc)
end tokenSafe
theorem tokenSafe_holds : Rows.TokenSafeSaid := tokenSafe.over
end Go.Proofs.Ytbjkncfpddhpkaa
