/- GatherHears: gatherings are as the chapter says, of all nodes, counters and joins; two of them have nothing to do with one another. No conditions. -/
import Derived.Test.YtmfdgbdcbfppcaaDi
namespace Go.Proofs.Ytmfdgbdcbfppcaa
open Go.RowKit
/-- The program's gathering, the document's, and another one of the program's, apart. -/
structure Hs (w0 w : World) (pa : Nat) (Xa : Nat → Prop) (pb : Nat) (Yb : Nat → Prop) (po : Nat) (Xo : Nat → Prop) (n c g : Int) (J : Int → Option Jo) (L : List J3) (og : Int) (oJ : Int → Option Jo) : Prop where
  a : Ga w pa Xa n c g J
  b : Dg w pb Yb n c L
  o : Ga w po Xo 1 0 og oJ
  new : ∀ i, Xa i ∨ Yb i ∨ Xo i → w0.heap.size ≤ i
  ab : ∀ i, Xa i → ¬ Yb i
  ao : ∀ i, Xa i → ¬ Xo i
  bo : ∀ i, Yb i → ¬ Xo i
  mod : Mod (fun _ => False) w0 w
section
variable {w0 w : World} {pa : Nat} {Xa : Nat → Prop} {pb : Nat} {Yb : Nat → Prop} {po : Nat} {Xo : Nat → Prop} {n c g : Int} {J : Int → Option Jo} {L : List J3} {og : Int} {oJ : Int → Option Jo}
theorem Hs.keep {w' : World} (h : Hs w0 w pa Xa pb Yb po Xo n c g J L og oJ) (hm : Mod (fun _ => False) w w') : Hs w0 w' pa Xa pb Yb po Xo n c g J L og oJ :=
  ⟨h.a.keep hm, h.b.keep hm, h.o.keep hm, h.new, h.ab, h.ao, h.bo, h.mod.and hm⟩
theorem hs_ha (h : Hs w0 w pa Xa pb Yb po Xo n c g J L og oJ) (s q k : Int) (hq : I64 q) : Calls Try.prog 11 #[.pointer (some ⟨pa, 0, none⟩), jv s q k] w fun e w' => e = .returned (.tuple #[.bool (h1 n J s q k), .bool (h2 n J s q k), .int .i64 (h3 s q k)]) ∧ Hs w0 w' pa Xa pb Yb po Xo n c (hG n g s q k) (hJ n J s q k) L og oJ := by
  refine (Hear_any h.a s q k hq).mono ?_
  rintro e w' ⟨rfl, hg, hm⟩
  exact ⟨rfl, hg, h.b.mod hm (fun i hi hx => h.ab i hx hi), h.o.mod hm (fun i hi hx => h.ao i hx hi), h.new, h.ab, h.ao, h.bo, h.mod.trans hm (V := fun _ => False) (fun _ _ h => h) (fun i hi hx => by have := h.new i (.inl hx); omega)⟩
theorem hs_ho (h : Hs w0 w pa Xa pb Yb po Xo n c g J L og oJ) (s q k : Int) (hq : I64 q) : Calls Try.prog 11 #[.pointer (some ⟨po, 0, none⟩), jv s q k] w fun e w' => ∃ a b d, e = .returned (.tuple #[.bool a, .bool b, .int .i64 d]) ∧ ∃ og' oJ', Hs w0 w' pa Xa pb Yb po Xo n c g J L og' oJ' := by
  refine (Hear_any h.o s q k hq).mono ?_
  rintro e w' ⟨rfl, hg, hm⟩
  exact ⟨_, _, _, rfl, _, _, h.a.mod hm (fun i hi hx => h.ao i hi hx), h.b.mod hm (fun i hi hx => h.bo i hi hx), hg, h.new, h.ab, h.ao, h.bo, h.mod.trans hm (V := fun _ => False) (fun _ _ h => h) (fun i hi hx => by have := h.new i (.inr (.inr hx)); omega)⟩
theorem hs_hb (h : Hs w0 w pa Xa pb Yb po Xo n c g J L og oJ) (hL : L.length < 300) (s q k : Int) (hq : I64 q) : Calls Try.prog 12 #[.pointer (some ⟨pb, 0, none⟩), jv s q k] w fun e w' => e = .returned (.tuple #[.bool (h1 n (lj L) s q k), .bool (h2 n (lj L) s q k), .int .i64 (h3 s q k)]) ∧ ∃ Yb', Hs w0 w' pa Xa pb Yb' po Xo n c g J (dL n L s q k) og oJ := by
  refine (dHear_any h.b hL s q k hq).mono ?_
  rintro e w' ⟨Y', rfl, hg, hm, hn⟩
  refine ⟨rfl, Y', h.a.mod hm (fun i hi hx => h.ab i hi hx), hg, h.o.mod hm (fun i hi hx => h.bo i hx hi), ?_, ?_, h.ao, ?_, h.mod.trans hm (V := fun _ => False) (fun _ _ h => h) (fun i hi hx => by have := h.new i (.inr (.inl hx)); omega)⟩
  · rintro i (hi | hi | hi)
    · exact h.new i (.inl hi)
    · rcases hn i hi with hi | hi
      · exact h.new i (.inr (.inl hi))
      · have := h.mod.size; omega
    · exact h.new i (.inr (.inr hi))
  · intro i hi hx
    rcases hn i hx with hx | hx
    · exact h.ab i hi hx
    · have := h.a.lt i hi; omega
  · intro i hi hx
    rcases hn i hi with hi | hi
    · exact h.bo i hi hx
    · have := h.o.lt i hx; omega
theorem hs_owna (h : Hs w0 w pa Xa pb Yb po Xo n c g J L og oJ) : Calls Try.prog 13 #[.pointer (some ⟨pa, 0, none⟩)] w fun e w' => e = .returned (jv n (hr n J) c) ∧ Hs w0 w' pa Xa pb Yb po Xo n c g J L og oJ :=
  (Own_w h.a).mono fun _ _ he => ⟨he.1, h.keep he.2⟩
theorem hs_ownb (h : Hs w0 w pa Xa pb Yb po Xo n c g J L og oJ) (hL : L.length ≤ 300) (hJL : lj L = J) : Calls Try.prog 14 #[.pointer (some ⟨pb, 0, none⟩)] w fun e w' => e = .returned (jv n (hr n J) c) ∧ Hs w0 w' pa Xa pb Yb po Xo n c g J L og oJ := by
  rw [← hJL]
  exact (dOwn_w h.b hL).mono fun _ _ he => ⟨he.1, by rw [hJL]; exact h.keep he.2⟩
theorem hs_aga (h : Hs w0 w pa Xa pb Yb po Xo n c g J L og oJ) : Calls Try.prog 15 #[.pointer (some ⟨pa, 0, none⟩)] w fun e w' => e = .returned (.bool (ag J (hr n J))) ∧ Hs w0 w' pa Xa pb Yb po Xo n c g J L og oJ :=
  (Agreed_w h.a).mono fun _ _ he => ⟨he.1, h.keep he.2⟩
theorem hs_agb (h : Hs w0 w pa Xa pb Yb po Xo n c g J L og oJ) (hL : L.length ≤ 300) (hJL : lj L = J) : Calls Try.prog 16 #[.pointer (some ⟨pb, 0, none⟩)] w fun e w' => e = .returned (.bool (ag J (hr n J))) ∧ Hs w0 w' pa Xa pb Yb po Xo n c g J L og oJ := by
  rw [← hJL]
  exact (dAgreed_w h.b hL).mono fun _ _ he => ⟨he.1, by rw [hJL]; exact h.keep he.2⟩
theorem hs_coa (h : Hs w0 w pa Xa pb Yb po Xo n c g J L og oJ) : Calls Try.prog 17 #[.pointer (some ⟨pa, 0, none⟩)] w fun e w' => e = .returned (.int .i64 g) ∧ Hs w0 w' pa Xa pb Yb po Xo n c g J L og oJ :=
  (Counter_w h.a).mono fun _ _ he => ⟨he.1, by rw [he.2]; exact h⟩
theorem hs_cob (h : Hs w0 w pa Xa pb Yb po Xo n c g J L og oJ) (hL : L.length ≤ 300) (hgl : mx c L = g) : Calls Try.prog 18 #[.pointer (some ⟨pb, 0, none⟩)] w fun e w' => e = .returned (.int .i64 g) ∧ Hs w0 w' pa Xa pb Yb po Xo n c g J L og oJ := by
  rw [← hgl]
  exact (dCounter_w h.b hL).mono fun _ _ he => ⟨he.1, by rw [he.2, hgl]; exact h⟩
end
set_option maxRecDepth 100000 in
set_option maxHeartbeats 20000000 in
theorem hears_walk (n c : Int) (v : Value) (B : List J3) (w : World) (hs : Ji w v B) : Calls Try.prog 3 #[.int .i64 n, .int .i64 c, v] w fun e w' => e = .returned (.bool true) ∧ Mod (fun _ => False) w w' := by
  have HS : Hid (Ji w v B) := hs
  obtain ⟨ao, cap, rfl, hlen⟩ := hs.shape
  clear hs
  cases hok : okN n c with
  | false =>
    go_enter Try.func3, Try.ntmps3
    go_wp2_with (fail)
    refine (New_bad n c hok w).mono ?_
    rintro e w1 ⟨rfl, hm1⟩
    go_wp2_with (fail)
    refine (dNew_bad n c hok w1).mono ?_
    rintro e w1 ⟨rfl, rfl⟩
    go_wp2_with (fail)
    refine (New_ok 1 0 (by decide) w1).mono ?_
    rintro e w2 ⟨p, X, rfl, _, _, hm2⟩
    go_wp2_with (fail)
    refine (works_any w2).mono ?_
    rintro e w3 ⟨rfl, hm3⟩
    go_wp2_with (fail)
    go_ret
    exact ⟨rfl, (hm1.and hm2).and hm3⟩
  | true =>
    go_enter Try.func3, Try.ntmps3
    go_wp2_with (fail)
    refine (New_ok n c hok w).mono ?_
    rintro e w1 ⟨pa, Xa, rfl, ga, na, hm1⟩
    go_wp2_with (fail)
    refine (dNew_ok n c hok w1).mono ?_
    rintro e w2 ⟨pb, Yb, rfl, gb, nb, hm2⟩
    go_wp2_with (fail)
    refine (New_ok 1 0 (by decide) w2).mono ?_
    rintro e w3 ⟨po, Xo, rfl, go, no, hm3⟩
    have HH : Hid (Hs w w3 pa Xa pb Yb po Xo n c c (fun _ => none) [] 0 (fun _ => none)) := ⟨(ga.keep hm2).keep hm3, gb.keep hm3, go, by
      have := hm1.size; have := hm2.size
      rintro i (hi | hi | hi)
      · exact na i hi
      · have := nb i hi; omega
      · have := no i hi; omega, fun i hi hx => by have := ga.lt i hi; have := nb i hx; omega, fun i hi hx => by have := ga.lt i hi; have := no i hx; have := hm2.size; omega, fun i hi hx => by have := gb.lt i hi; have := no i hx; omega, (hm1.and hm2).and hm3⟩
    clear ga gb go na nb no hm1 hm2 hm3 hok
    go_wp2_with (fail)
    go_loopw [13] (fun i wr => ∃ (k : Nat) (Yb : Nat → Prop) (g : Int) (J : Int → Option Jo) (L : List J3) (og : Int) (oJ : Int → Option Jo), i = .int .i64 (k : Int) ∧ k ≤ 200 ∧ Hid (Hs w wr pa Xa pb Yb po Xo n c g J L og oJ ∧ lj L = J ∧ mx c L = g ∧ L.length ≤ k)) (fun i _ => 200 - (intOf i).toNat)
    case atStart => exact ⟨0, Yb, c, fun _ => none, [], 0, fun _ => none, rfl, by omega, HH.out, rfl, rfl, Nat.le_refl _⟩
    case round =>
      clear HH
      obtain ⟨k, Y, g, J, L, og, oJ, rfl, hk, HH⟩ := hrel
      by_cases hkl : k < B.length ∧ k < 200
      · obtain ⟨hkB, hk2⟩ := hkl
        have hki : (k : Int) < (B.length : Int) := by omega
        have hk200 : (k : Int) < 200 := by omega
        obtain ⟨x, hx⟩ : ∃ x, B[k]? = some x := ⟨_, List.getElem?_eq_getElem hkB⟩
        obtain ⟨b, off, eao, hc⟩ := HS.out.at hx
        have hxi := HS.out.i64 hx
        have HI : Hid (I64 x.s ∧ I64 x.p ∧ I64 x.c) := hxi
        have HC : Hid (∀ w', Mod (fun _ => False) w w' → w'.cell? ⟨b, off + k * 3, none⟩ = some (.int .i64 x.s) ∧ w'.cell? ⟨b, off + k * 3 + 1, none⟩ = some (.int .i64 x.p) ∧ w'.cell? ⟨b, off + k * 3 + 2, none⟩ = some (.int .i64 x.c)) := hc
        subst eao
        have hls := HH.out.2.2.2
        have HLEN : Hid (L.length ≤ k) := hls
        clear hc hx hxi hls
        obtain ⟨d0, d1, d2⟩ := HC.out wr HH.out.1.mod
        have hJL := HH.out.2.1
        have hGL := HH.out.2.2.1
        subst hJL hGL
        obtain ⟨a1, e1⟩ : ∃ a1, a1 = h1 n (lj L) x.s x.p x.c := ⟨_, rfl⟩
        obtain ⟨a2, e2⟩ : ∃ a2, a2 = h2 n (lj L) x.s x.p x.c := ⟨_, rfl⟩
        obtain ⟨a3, e3⟩ : ∃ a3, a3 = h3 x.s x.p x.c := ⟨_, rfl⟩
        have CA := hs_ha HH.out.1 x.s x.p x.c HI.out.2.1
        rw [← e1, ← e2, ← e3] at CA
        unfold jv at CA
        have HJL : Hid (lj (dL n L x.s x.p x.c) = hJ n (lj L) x.s x.p x.c) := dL_lj n L x.s x.p x.c
        have HGL : Hid (mx c (dL n L x.s x.p x.c) = hG n (mx c L) x.s x.p x.c) := dL_mx n c L x.s x.p x.c
        have HLL : Hid ((dL n L x.s x.p x.c).length ≤ L.length + 1) := dL_len n L x.s x.p x.c
        have E1 : Hid (a1 = h1 n (lj L) x.s x.p x.c ∧ a2 = h2 n (lj L) x.s x.p x.c ∧ a3 = h3 x.s x.p x.c) := ⟨e1, e2, e3⟩
        clear e1 e2 e3
        go_wp2_with (fail)
        refine CA.mono ?_
        rintro e w2 ⟨rfl, h2⟩
        have HH2 : Hid (Hs w w2 pa Xa pb Y po Xo n c (hG n (mx c L) x.s x.p x.c) (hJ n (lj L) x.s x.p x.c) L og oJ) := h2
        clear HH h2 d0 d1 d2 CA
        obtain ⟨d0, d1, d2⟩ := HC.out w2 HH2.out.mod
        have CB := hs_hb HH2.out (by have := HLEN.out; omega) x.s x.p x.c HI.out.2.1
        rw [← E1.out.1, ← E1.out.2.1, ← E1.out.2.2] at CB
        unfold jv at CB
        go_wp2_with (fail)
        refine CB.mono ?_
        rintro e w3 ⟨rfl, Y', h3⟩
        have HH3 : Hid (Hs w w3 pa Xa pb Y' po Xo n c (hG n (mx c L) x.s x.p x.c) (hJ n (lj L) x.s x.p x.c) (dL n L x.s x.p x.c) og oJ) := h3
        have HLT : Hid ((dL n L x.s x.p x.c).length ≤ k + 1) := (show _ ≤ _ by have := HLEN.out; have := HLL.out; omega)
        clear HH2 h3 d0 d1 d2 CB E1 HLL HLEN HC HI
        generalize hG n (mx c L) x.s x.p x.c = G' at *
        generalize hJ n (lj L) x.s x.p x.c = J' at *
        generalize dL n L x.s x.p x.c = L' at *
        have hL300 : Hid (L'.length ≤ 300) := (show _ ≤ _ by have := HLT.out; omega)
        go_wp2_with (fail)
        refine (hs_ho HH3.out _ 510 _ ⟨by decide, by decide⟩).mono ?_
        rintro e w4 ⟨b1, b2, b3, rfl, og', oJ', h4⟩
        have HH4 : Hid (Hs w w4 pa Xa pb Y' po Xo n c G' J' L' og' oJ') := h4
        clear HH3 h4
        obtain ⟨R, eR⟩ : ∃ R : Int, R = (hr n J' : Nat) := ⟨_, rfl⟩
        obtain ⟨A, eA⟩ : ∃ A : Bool, A = ag J' (hr n J') := ⟨_, rfl⟩
        have HR : Hid (R = (hr n J' : Nat) ∧ A = ag J' (hr n J')) := ⟨eR, eA⟩
        clear eR eA
        have ER := eqJ n R c n R c true (by simp)
        go_wp2_with (fail)
        have C := hs_owna HH4.out
        rw [← HR.out.1] at C
        unfold jv at C
        refine C.mono ?_
        rintro e w5 ⟨rfl, h5⟩
        clear C HH4
        go_wp2_with (fail)
        have C := hs_ownb h5 hL300.out HJL.out
        rw [← HR.out.1] at C
        unfold jv at C
        refine C.mono ?_
        rintro e w6 ⟨rfl, h6⟩
        clear C h5
        go_wp2_with (fail)
        have C := hs_aga h6
        rw [← HR.out.2] at C
        refine C.mono ?_
        rintro e w7 ⟨rfl, h7⟩
        clear C h6
        go_wp2_with (fail)
        have C := hs_agb h7 hL300.out HJL.out
        rw [← HR.out.2] at C
        refine C.mono ?_
        rintro e w8 ⟨rfl, h8⟩
        clear C h7
        go_wp2_with (fail)
        refine (hs_coa h8).mono ?_
        rintro e w9 ⟨rfl, h9⟩
        clear h8
        go_wp2_with (fail)
        refine (hs_cob h9 hL300.out HGL.out).mono ?_
        rintro e w10 ⟨rfl, h10⟩
        clear h9
        have H10 : Hid (Hs w w10 pa Xa pb Y' po Xo n c G' J' L' og' oJ') := h10
        clear h10
        go_wp2_with (fail)
        go_roundw
        case rel => exact ⟨k + 1, Y', G', J', L', og', oJ', by go_num, by omega, H10.out, HJL.out, HGL.out, HLT.out⟩
        case measure => simp [intOf]; omega
      · have hJL := HH.out.2.1
        have hGL := HH.out.2.2.1
        have hL300 : Hid (L.length ≤ 300) := (show _ ≤ _ by have := HH.out.2.2.2; omega)
        have HJL : Hid (lj L = J) := hJL
        have H4 : Hid (Hs w wr pa Xa pb Y po Xo n c g J L og oJ) := HH.out.1
        clear HH hJL hGL
        obtain ⟨R, eR⟩ : ∃ R : Int, R = (hr n J : Nat) := ⟨_, rfl⟩
        obtain ⟨A, eA⟩ : ∃ A : Bool, A = ag J (hr n J) := ⟨_, rfl⟩
        have HR : Hid (R = (hr n J : Nat) ∧ A = ag J (hr n J)) := ⟨eR, eA⟩
        clear eR eA
        have ER := eqJ n R c n R c true (by simp)
        have hway : ¬ (k : Int) < (B.length : Int) ∨ ((k : Int) < (B.length : Int) ∧ ¬ (k : Int) < 200) := by omega
        rcases hway with hki | ⟨hki, hk2⟩
        all_goals
          go_wp2_with (fail)
          have C := hs_owna H4.out
          rw [← HR.out.1] at C
          unfold jv at C
          refine C.mono ?_
          rintro e w5 ⟨rfl, h5⟩
          clear C H4
          go_wp2_with (fail)
          have C := hs_ownb h5 hL300.out HJL.out
          rw [← HR.out.1] at C
          unfold jv at C
          refine C.mono ?_
          rintro e w6 ⟨rfl, h6⟩
          clear C h5
          go_wp2_with (fail)
          have C := hs_aga h6
          rw [← HR.out.2] at C
          refine C.mono ?_
          rintro e w7 ⟨rfl, h7⟩
          clear C h6
          go_wp2_with (fail)
          have C := hs_agb h7 hL300.out HJL.out
          rw [← HR.out.2] at C
          refine C.mono ?_
          rintro e w8 ⟨rfl, h8⟩
          clear C h7
          go_wp2_with (fail)
          refine (works_any w8).mono ?_
          rintro e w9 ⟨rfl, h9⟩
          have H9 : Hid (Mod (fun _ => False) w w9) := h8.mod.and h9
          clear h8 h9
          go_wp2_with (fail)
          go_ret
          exact ⟨rfl, H9.out⟩
namespace gatherHears
open Go.ChangeShapes Go.WideShapes Go.ChangeAt Go.RowKit
set_option maxRecDepth 100000 in
theorem lifted (os : Os) (started : os.Started) (H : Type) (enc : TypeId × Value → H) :
    ReturnsInHanded {} Try.checked os 3 .any (Rows.gatherHearsSpec.pre6 enc Try.prog Try.f3 Rows.gatherHearsRow.domain false) (Rows.gatherHearsSpec.post enc Try.prog Try.f3 false true false false) := by
  refine returnsInHanded_of_change_sized (C := Try.checked) own started (by kernel_rfl) Try.func3
    (ChangeSpec.witness6 (enc := enc) (C := Try.checked) false ⟨#[], #[.int .i64 0, .int .i64 0, .slice none 0 0], []⟩ 8 (by kernel_rfl) (by kernel_rfl) (by kernel_rfl) (by kernel_rfl)) ?_
  intro W base args ds gs before hval0 hW hcnd hsz0 _
  have hval : ∀ (j : Nat) t v, Try.f3.params[j]? = some t → args[j]? = some v → Value.okWide Try.prog W .any base t v := hval0
  have hsz : (DataW.weightsEach Try.prog (Try.f3.params.toList ++ Rows.gatherHearsSpec.plain.varTypes Try.prog) (ds ++ gs)).all (· ≤ reachBytes) = true := hsz0
  have hW' := hW
  obtain ⟨p, q, hA0, hV, rfl, hfz, hnd⟩ := hW
  have hA : DataW.TrodAll enc Try.prog W 0 (fun _ => true) true Try.f3.params.toList args.toList ds p := hA0
  rw [Try.params3] at hA hval hsz
  obtain ⟨v0, vs0, d0, ds0, p0, q0, hargs, rfl, rfl, h0, r0⟩ := trodAll_cons hA
  obtain ⟨v1, vs1, d1, ds1, p1, q1, rfl, rfl, rfl, h1, r1⟩ := trodAll_cons r0
  obtain ⟨v2, vs2, d2, ds2, p2, q2, rfl, rfl, rfl, h2, r2⟩ := trodAll_cons r1
  obtain ⟨rfl, rfl, rfl⟩ := trodAll_nil r2
  obtain rfl : args = #[v0, v1, v2] := by cases args; simp_all
  obtain ⟨rfl, rfl⟩ := trodVars_none hV
  obtain ⟨a0, rfl, rfl, rfl, w0⟩ := open_int Try.underlying3 (hval 0 3 v0 rfl rfl) h0
  obtain ⟨a1, rfl, rfl, rfl, w1⟩ := open_int Try.underlying3 (hval 1 3 v1 rfl rfl) h1
  have k2 := h2
  have lt2 : ∀ x ∈ p2, x.block < W.heap.size := by obtain ⟨m, hm⟩ := k2; exact DataW.trod_lt m _ _ _ hm
  obtain ⟨B2, hB2⟩ := open_joins h2 (okWide_slice Try.underlying22 (hval 2 22 v2 rfl rfl))
  clear hA0 hval0
  refine (hears_walk a0 a1 v2 B2 W hB2).mono fun e W' ⟨he, hm⟩ => ?_
  subst he
  have bel : Below W.heap.size W W' := hm.below _ (Nat.le_refl _) (fun _ h => h.elim)
  exact ⟨_, rfl, _, _, _, [], _, [], hW', trodAll_mk1 (shut_bool Try.underlying4 _), (trodAll_cons_mk (shut_int Try.underlying3 w0) (trodAll_cons_mk (shut_int Try.underlying3 w1) (trodAll_cons_mk (Below.trod laidOut (by kernel_rfl) (of_decide_eq_true (by kernel_rfl)) k2 bel lt2) trodAll_mk0))), rfl, bel.frame _, fun h => by cases h⟩

theorem over : Rows.gatherHearsRow.holds Try.pinned (OpenSpec.ofChange Rows.gatherHearsSpec) :=
  OpenClaim.holds_of_wide 3 Try.f3 rfl rfl rfl rfl rfl rfl rfl ⟨rfl, rfl, rfl, rfl, rfl⟩ rfl rfl rfl rfl rfl (by kernel_rfl) Try.func3 (by kernel_rfl)
    (of_decide_eq_true (by kernel_rfl)) (by unfold Func.isWrapper; first | (rw [if_pos (by decide +kernel)]; kernel_rfl) | (rw [if_neg (by decide +kernel)]; exact ⟨rfl, rfl⟩))
    (fun os started H enc _ => lifted os started H enc)
end gatherHears
theorem gatherHears_holds : Rows.GatherHearsSaid := gatherHears.over
end Go.Proofs.Ytmfdgbdcbfppcaa
