/- Contract of packet's isWell. Conditions: what its slices read as; sizes. -/
import Derived.Test.YtajhpnfpjickbaaK20
import Derived.Test.YtajhpnfpjickbaaK29
import Derived.Test.YtajhpnfpjickbaaK30
import Derived.Test.YtajhpnfpjickbaaK32
import Derived.Deep.Cut
namespace Go.Proofs.Ytajhpnfpjickbaa
open Go.RowKit
theorem range_nil (w : World) (b o : Nat) : w.rangeAt b o [] := fun j v h => by simp at h
theorem range_cons {w : World} {b o : Nat} {v : Value} {vs : List Value} (h : w.cell? ⟨b, o, none⟩ = some v) (hr : w.rangeAt b (o + 1) vs) : w.rangeAt b o (v :: vs) := fun j u hu => by
  cases j with
  | zero => simp at hu; subst hu; exact h
  | succ j => simp at hu; have := hr j u hu; rwa [show o + 1 + j = o + (j + 1) by omega] at this
theorem wpList_load_rangeg {ops : Array Oper} {rest : List Oper} {op : Oper} {a : Act} {w : World} {Q : Exit → Act → World → Prop} {t : TypeId} {n : Nat} {d : TypeDesc} (hi : (Try.prog.info? t).map (·.size) = some n) (hu : Try.prog.underlying t = some d) (hd : d.isRow = true) (hw : Region.wanted op (yielded ops a.tmps) = true) (x : Operand) (ho : op.op = .load t x)
    (b o : Nat) (hx : a.eval x = .pointer (some ⟨b, o, none⟩)) (cs : List Value) (hr : w.rangeAt b o cs) (hl : cs.length = n)
    (h : wpList Try.prog ops Q rest (a.put op.dst (.agg cs.toArray)) w) : wpList Try.prog ops Q (op :: rest) a w := by
  refine wpList_step fun K hK => ?_
  rw [if_pos hw]
  exact wp_load_mid (P := Try.prog) t x ho b o hx cs d hr hu hd (by rw [hi, hl]) (hK _ _ h)
set_option maxRecDepth 100000 in
set_option maxHeartbeats 8000000 in
theorem isWell_any (kd to dq dr ds dn dt k o lf i p ps g : Int) (s : Bool) (st rs rr sq : Int) (ao : Option Addr) (cap : Nat) (l : List Int) (tq tr th tsq ta tl tst ti : Int) (tao : Option Addr) (tcap : Nat) (tk : List Int) (js jp jc cq cr_ cm ch_ : Int) (cao : Option Addr) (ccap : Nat) (ce : List Ey) (bq br_ bs : Int) (xs : Array Value) (hxs : xs = px kd to dq dr ds dn dt k o lf i p ps g s st rs rr sq ao cap l tq tr th tsq ta tl tst ti tao tcap tk js jp jc cq cr_ cm ch_ cao ccap ce bq br_ bs) (w : World) (hs : Sl w (.slice ao l.length cap) l) (ht : Cr.Sl w (.slice tao tk.length tcap) tk) (hti : ∀ x ∈ tk, -9223372036854775808 ≤ x ∧ x ≤ 9223372036854775807)
    (he : SlE w (.slice cao ce.length ccap) ce) (hjp : -9223372036854775808 ≤ jp ∧ jp ≤ 9223372036854775807) (hcm : -9223372036854775808 ≤ cm ∧ cm ≤ 9223372036854775807) (hch : ch_ ≤ 9223372036854775807) :
    Calls Try.prog 76 #[.agg xs] w fun e w' => e = .returned (.bool (well ⟨kd, to, ⟨dq, dr, ds, dn, dt, ⟨k, o, lf, i, p, ps, g, s, st, rs, rr, sq, l⟩⟩, ⟨tq, tr, th, tsq, ta, tl, tst, ti, tk⟩, ⟨js, jp, jc⟩, ⟨cq, cr_, cm, ch_, ce⟩, ⟨bq, br_, bs⟩⟩)) ∧ Mod (fun _ => False) w w' := by
  have hM := (Mod.refl (fun _ => False) w).alloc (.cells xs 76)
  have hBk := Bk.new w xs 76
  have hs0 := hs.mod hM (fun _ _ h => h)
  have ht0 := Cr.Sl.mod ht hM (fun _ _ h => h)
  have he0 := he.mod hM (fun _ _ _ h => h)
  have a0 := hBk.cellv (j := 0) (v := .int .i64 kd) (by rw [hxs]; rfl)
  have a1 := hBk.cellv (j := 1) (v := .int .i64 to) (by rw [hxs]; rfl)
  have a2 := hBk.cellv (j := 2) (v := .int .i64 dq) (by rw [hxs]; rfl)
  have a3 := hBk.cellv (j := 3) (v := .int .i64 dr) (by rw [hxs]; rfl)
  have a4 := hBk.cellv (j := 4) (v := .int .i64 ds) (by rw [hxs]; rfl)
  have a5 := hBk.cellv (j := 5) (v := .int .i64 dn) (by rw [hxs]; rfl)
  have a6 := hBk.cellv (j := 6) (v := .int .i64 dt) (by rw [hxs]; rfl)
  have a7 := hBk.cellv (j := 7) (v := .int .i64 k) (by rw [hxs]; rfl)
  have a8 := hBk.cellv (j := 8) (v := .int .i64 o) (by rw [hxs]; rfl)
  have a9 := hBk.cellv (j := 9) (v := .int .i64 lf) (by rw [hxs]; rfl)
  have a10 := hBk.cellv (j := 10) (v := .int .i64 i) (by rw [hxs]; rfl)
  have a11 := hBk.cellv (j := 11) (v := .int .i64 p) (by rw [hxs]; rfl)
  have a12 := hBk.cellv (j := 12) (v := .int .i64 ps) (by rw [hxs]; rfl)
  have a13 := hBk.cellv (j := 13) (v := .int .i64 g) (by rw [hxs]; rfl)
  have a14 := hBk.cellv (j := 14) (v := .bool s) (by rw [hxs]; rfl)
  have a15 := hBk.cellv (j := 15) (v := .int .i64 st) (by rw [hxs]; rfl)
  have a16 := hBk.cellv (j := 16) (v := .int .i64 rs) (by rw [hxs]; rfl)
  have a17 := hBk.cellv (j := 17) (v := .int .i64 rr) (by rw [hxs]; rfl)
  have a18 := hBk.cellv (j := 18) (v := .int .i64 sq) (by rw [hxs]; rfl)
  have a19 := hBk.cellv (j := 19) (v := .slice ao l.length cap) (by rw [hxs]; rfl)
  have a20 := hBk.cellv (j := 20) (v := .int .i64 tq) (by rw [hxs]; rfl)
  have a21 := hBk.cellv (j := 21) (v := .int .i64 tr) (by rw [hxs]; rfl)
  have a22 := hBk.cellv (j := 22) (v := .int .i64 th) (by rw [hxs]; rfl)
  have a23 := hBk.cellv (j := 23) (v := .int .i64 tsq) (by rw [hxs]; rfl)
  have a24 := hBk.cellv (j := 24) (v := .int .i64 ta) (by rw [hxs]; rfl)
  have a25 := hBk.cellv (j := 25) (v := .int .i64 tl) (by rw [hxs]; rfl)
  have a26 := hBk.cellv (j := 26) (v := .int .i64 tst) (by rw [hxs]; rfl)
  have a27 := hBk.cellv (j := 27) (v := .int .i64 ti) (by rw [hxs]; rfl)
  have a28 := hBk.cellv (j := 28) (v := .slice tao tk.length tcap) (by rw [hxs]; rfl)
  have a29 := hBk.cellv (j := 29) (v := .int .i64 js) (by rw [hxs]; rfl)
  have a30 := hBk.cellv (j := 30) (v := .int .i64 jp) (by rw [hxs]; rfl)
  have a31 := hBk.cellv (j := 31) (v := .int .i64 jc) (by rw [hxs]; rfl)
  have a32 := hBk.cellv (j := 32) (v := .int .i64 cq) (by rw [hxs]; rfl)
  have a33 := hBk.cellv (j := 33) (v := .int .i64 cr_) (by rw [hxs]; rfl)
  have a34 := hBk.cellv (j := 34) (v := .int .i64 cm) (by rw [hxs]; rfl)
  have a35 := hBk.cellv (j := 35) (v := .int .i64 ch_) (by rw [hxs]; rfl)
  have a36 := hBk.cellv (j := 36) (v := .slice cao ce.length ccap) (by rw [hxs]; rfl)
  have a37 := hBk.cellv (j := 37) (v := .int .i64 bq) (by rw [hxs]; rfl)
  have a38 := hBk.cellv (j := 38) (v := .int .i64 br_) (by rw [hxs]; rfl)
  have a39 := hBk.cellv (j := 39) (v := .int .i64 bs) (by rw [hxs]; rfl)
  clear hBk hxs
  by_cases hk1 : kd = 1
  case pos =>
    subst hk1
    clear a20 a21 a22 a23 a24 a25 a26 a27 a28 a29 a30 a31 a32 a33 a34 a35 a36 a37 a38 a39
    have hv : well ⟨1, to, ⟨dq, dr, ds, dn, dt, ⟨k, o, lf, i, p, ps, g, s, st, rs, rr, sq, l⟩⟩, ⟨tq, tr, th, tsq, ta, tl, tst, ti, tk⟩, ⟨js, jp, jc⟩, ⟨cq, cr_, cm, ch_, ce⟩, ⟨bq, br_, bs⟩⟩ = (decide (to = 0) && okD ⟨dq, dr, ds, dn, dt, ⟨k, o, lf, i, p, ps, g, s, st, rs, rr, sq, l⟩⟩) := rfl
    rw [hv]
    clear hv
    have H := isData_any dq dr ds dn dt k o lf i p ps g s st rs rr sq ao cap l _ hs0
    have hrg : (w.alloc (.cells xs 76)).rangeAt w.heap.size 2 [.int .i64 dq, .int .i64 dr, .int .i64 ds, .int .i64 dn, .int .i64 dt, .int .i64 k, .int .i64 o, .int .i64 lf, .int .i64 i, .int .i64 p, .int .i64 ps, .int .i64 g, .bool s, .int .i64 st, .int .i64 rs, .int .i64 rr, .int .i64 sq, .slice ao l.length cap] := (range_cons a2 (range_cons a3 (range_cons a4 (range_cons a5 (range_cons a6 (range_cons a7 (range_cons a8 (range_cons a9 (range_cons a10 (range_cons a11 (range_cons a12 (range_cons a13 (range_cons a14 (range_cons a15 (range_cons a16 (range_cons a17 (range_cons a18 (range_cons a19 (range_nil _ _ _)))))))))))))))))))
    generalize okD ⟨dq, dr, ds, dn, dt, ⟨k, o, lf, i, p, ps, g, s, st, rs, rr, sq, l⟩⟩ = c at H ⊢
    clear a2 a3 a4 a5 a6 a7 a8 a9 a10 a11 a12 a13 a14 a15 a16 a17 a18 a19
    by_cases h0 : to = 0
    · subst h0
      go_enter Try.func76, Try.ntmps76
      go_wp2_with (refine wpList_load_rangeg info18 Try.underlying49 rfl rfl _ rfl w.heap.size 2 rfl [.int .i64 dq, .int .i64 dr, .int .i64 ds, .int .i64 dn, .int .i64 dt, .int .i64 k, .int .i64 o, .int .i64 lf, .int .i64 i, .int .i64 p, .int .i64 ps, .int .i64 g, .bool s, .int .i64 st, .int .i64 rs, .int .i64 rr, .int .i64 sq, .slice ao l.length cap] hrg rfl ?_; simp only [Act.put, List.setIfInBounds_toArray, List.set_cons_succ, List.set_cons_zero])
      refine H.mono ?_
      rintro e w1 ⟨rfl, hm1⟩
      go_wp2
      go_ret
      exact ⟨by simp, hM.trans hm1 (V := fun _ => False) (fun _ _ h => h) (fun _ _ h => h)⟩
    · have hb : (to == 0) = false := by simp [h0]
      go_enter Try.func76, Try.ntmps76
      go_wp2
      go_ret
      exact ⟨by simp [h0], hM⟩
  case neg =>
  by_cases hk2 : kd = 2
  case pos =>
    subst hk2
    clear a2 a3 a4 a5 a6 a7 a8 a9 a10 a11 a12 a13 a14 a15 a16 a17 a18 a19 a29 a30 a31 a32 a33 a34 a35 a36 a37 a38 a39
    have hv : well ⟨2, to, ⟨dq, dr, ds, dn, dt, ⟨k, o, lf, i, p, ps, g, s, st, rs, rr, sq, l⟩⟩, ⟨tq, tr, th, tsq, ta, tl, tst, ti, tk⟩, ⟨js, jp, jc⟩, ⟨cq, cr_, cm, ch_, ce⟩, ⟨bq, br_, bs⟩⟩ = (nd to && okT ⟨tq, tr, th, tsq, ta, tl, tst, ti, tk⟩) := rfl
    rw [hv]
    clear hv
    have H1 := pkNode to
    have H := isToken_any tq tr th tsq ta tl tst ti tao tcap tk _ ht0 hti
    generalize okT ⟨tq, tr, th, tsq, ta, tl, tst, ti, tk⟩ = c at H ⊢
    generalize nd to = c1 at H1 ⊢
    cases c1
    case false =>
      go_enter Try.func76, Try.ntmps76
      go_wp2_with (fail)
      refine (H1 _).mono ?_
      rintro e w1 ⟨rfl, rfl⟩
      go_wp2
      go_ret
      exact ⟨rfl, hM⟩
    case true =>
      go_enter Try.func76, Try.ntmps76
      go_wp2_with (fail)
      refine (H1 _).mono ?_
      rintro e w1 ⟨rfl, rfl⟩
      go_wp2_with (fail)
      refine H.mono ?_
      rintro e w1 ⟨rfl, hm1⟩
      go_wp2
      go_ret
      exact ⟨by simp, hM.trans hm1 (V := fun _ => False) (fun _ _ h => h) (fun _ _ h => h)⟩
  case neg =>
  by_cases hk3 : kd = 3
  case pos =>
    subst hk3
    clear a2 a3 a4 a5 a6 a7 a8 a9 a10 a11 a12 a13 a14 a15 a16 a17 a18 a19 a20 a21 a22 a23 a24 a25 a26 a27 a28 a32 a33 a34 a35 a36 a37 a38 a39
    have hv : well ⟨3, to, ⟨dq, dr, ds, dn, dt, ⟨k, o, lf, i, p, ps, g, s, st, rs, rr, sq, l⟩⟩, ⟨tq, tr, th, tsq, ta, tl, tst, ti, tk⟩, ⟨js, jp, jc⟩, ⟨cq, cr_, cm, ch_, ce⟩, ⟨bq, br_, bs⟩⟩ = (decide (to = 0) && okJ ⟨js, jp, jc⟩) := rfl
    rw [hv]
    clear hv
    have H := fun W => isJoin_any js jp jc W hjp
    generalize okJ ⟨js, jp, jc⟩ = c at H ⊢
    by_cases h0 : to = 0
    · subst h0
      go_enter Try.func76, Try.ntmps76
      go_wp2_with (fail)
      refine (H _).mono ?_
      rintro e w1 ⟨rfl, hm1⟩
      go_wp2
      go_ret
      exact ⟨by simp, hM.trans hm1 (V := fun _ => False) (fun _ _ h => h) (fun _ _ h => h)⟩
    · have hb : (to == 0) = false := by simp [h0]
      go_enter Try.func76, Try.ntmps76
      go_wp2
      go_ret
      exact ⟨by simp [h0], hM⟩
  case neg =>
  by_cases hk4 : kd = 4
  case pos =>
    subst hk4
    clear a2 a3 a4 a5 a6 a7 a8 a9 a10 a11 a12 a13 a14 a15 a16 a17 a18 a19 a20 a21 a22 a23 a24 a25 a26 a27 a28 a29 a30 a31 a37 a38 a39
    have hv : well ⟨4, to, ⟨dq, dr, ds, dn, dt, ⟨k, o, lf, i, p, ps, g, s, st, rs, rr, sq, l⟩⟩, ⟨tq, tr, th, tsq, ta, tl, tst, ti, tk⟩, ⟨js, jp, jc⟩, ⟨cq, cr_, cm, ch_, ce⟩, ⟨bq, br_, bs⟩⟩ = (okC ⟨cq, cr_, cm, ch_, ce⟩ && decide (to = rcv ⟨cq, cr_, cm, ch_, ce⟩)) := rfl
    rw [hv]
    clear hv
    have hMd := hM.drew
    have he1 := he.mod hMd (fun _ _ _ h => h)
    have H := fun W h => isCommit_any cq cr_ cm ch_ cao ccap ce W h hcm
    have hpos : okC ⟨cq, cr_, cm, ch_, ce⟩ = true → 0 < (Cr.ls (Cr.lo cm)).length ∧ 1 ≤ ch_ := by
      intro h
      simp only [okC, win, Bool.and_eq_true, decide_eq_true_eq] at h
      exact ⟨by rw [lo_cn]; exact h.1.1.1.1.1.2, h.1.1.2.1⟩
    have HR := fun W h1 h2 => receiver_any cq cr_ cm ch_ cao ccap ce W h1 h2 hch
    generalize rcv ⟨cq, cr_, cm, ch_, ce⟩ = rc at HR ⊢
    generalize okC ⟨cq, cr_, cm, ch_, ce⟩ = c at H hpos ⊢
    cases c
    case false =>
      go_enter Try.func76, Try.ntmps76
      go_upto_region 9 with fail
      refine region90 w.heap.size ce.length ccap cao to cq cr_ cm ch_ rc false ⟨⟨_, rfl, rfl, rfl, rfl, by decide +kernel⟩⟩ ⟨⟨_, rfl, rfl, rfl, rfl, by decide +kernel⟩⟩ ⟨⟨_, rfl, rfl, rfl, rfl, by decide +kernel⟩⟩ ⟨⟨_, rfl, rfl, rfl, rfl, by decide +kernel⟩⟩ ⟨⟨_, rfl, rfl, rfl, rfl, by decide +kernel⟩⟩ ⟨⟨_, rfl, rfl, rfl, rfl, by decide +kernel⟩⟩ ⟨⟨_, rfl, rfl, rfl, rfl, by decide +kernel⟩⟩ ⟨⟨_, rfl, rfl, rfl, rfl, by decide +kernel⟩⟩ ⟨⟨_, rfl, rfl, rfl, rfl, by decide +kernel⟩⟩ ⟨⟨_, rfl, rfl, rfl, rfl, by decide +kernel⟩⟩ ⟨⟨_, rfl, rfl, rfl, rfl, by decide +kernel⟩⟩ ⟨⟨_, rfl, rfl, rfl, rfl, by decide +kernel⟩⟩ rfl (by decide +kernel) rfl (by decide +kernel) mixed rfl rfl a1 a32 a33 a34 a35 a36 (fun W hW => H W (he1.mod hW (fun _ _ _ h => h))) ?_
      intro w1 hm1
      simp only [puts, Act.put, List.setIfInBounds_toArray, List.set_cons_succ, List.set_cons_zero]
      go_wp2
      go_ret
      exact ⟨rfl, hMd.trans hm1 (V := fun _ => False) (fun _ _ h => h) (fun _ _ h => h)⟩
    case true =>
      obtain ⟨p1, p2⟩ := hpos rfl
      obtain ⟨q, hq⟩ : ∃ q, (to == rc) = q := ⟨_, rfl⟩
      have hd : decide (to = rc) = q := by rw [← hq, Bool.eq_iff_iff]; simp
      rw [hd]
      go_enter Try.func76, Try.ntmps76
      go_upto_region 9 with fail
      refine region91 w.heap.size ce.length ccap cao to cq cr_ cm ch_ rc q ⟨⟨_, rfl, rfl, rfl, rfl, by decide +kernel⟩⟩ ⟨⟨_, rfl, rfl, rfl, rfl, by decide +kernel⟩⟩ ⟨⟨_, rfl, rfl, rfl, rfl, by decide +kernel⟩⟩ ⟨⟨_, rfl, rfl, rfl, rfl, by decide +kernel⟩⟩ ⟨⟨_, rfl, rfl, rfl, rfl, by decide +kernel⟩⟩ ⟨⟨_, rfl, rfl, rfl, rfl, by decide +kernel⟩⟩ ⟨⟨_, rfl, rfl, rfl, rfl, by decide +kernel⟩⟩ ⟨⟨_, rfl, rfl, rfl, rfl, by decide +kernel⟩⟩ ⟨⟨_, rfl, rfl, rfl, rfl, by decide +kernel⟩⟩ ⟨⟨_, rfl, rfl, rfl, rfl, by decide +kernel⟩⟩ ⟨⟨_, rfl, rfl, rfl, rfl, by decide +kernel⟩⟩ ⟨⟨_, rfl, rfl, rfl, rfl, by decide +kernel⟩⟩ rfl (by decide +kernel) rfl (by decide +kernel) mixed rfl rfl a1 a32 a33 a34 a35 a36 (fun W hW => H W (he1.mod hW (fun _ _ _ h => h))) (fun W => HR W p1 p2) hq ?_
      intro w1 hm1
      simp only [puts, Act.put, List.setIfInBounds_toArray, List.set_cons_succ, List.set_cons_zero]
      go_wp2
      go_ret
      exact ⟨by simp, hMd.trans hm1 (V := fun _ => False) (fun _ _ h => h) (fun _ _ h => h)⟩
  case neg =>
  by_cases hk5 : kd = 5
  case pos =>
    subst hk5
    clear a2 a3 a4 a5 a6 a7 a8 a9 a10 a11 a12 a13 a14 a15 a16 a17 a18 a19 a20 a21 a22 a23 a24 a25 a26 a27 a28 a29 a30 a31 a32 a33 a34 a35 a36
    have hv : well ⟨5, to, ⟨dq, dr, ds, dn, dt, ⟨k, o, lf, i, p, ps, g, s, st, rs, rr, sq, l⟩⟩, ⟨tq, tr, th, tsq, ta, tl, tst, ti, tk⟩, ⟨js, jp, jc⟩, ⟨cq, cr_, cm, ch_, ce⟩, ⟨bq, br_, bs⟩⟩ = (decide (to = 0) && (isr bq br_ && nd bs)) := rfl
    rw [hv]
    clear hv
    have H1 := pkRing bq br_
    have H2 := pkNode bs
    generalize isr bq br_ = c1 at H1 ⊢
    generalize nd bs = c2 at H2 ⊢
    by_cases h0 : to = 0
    case neg =>
      have hb : (to == 0) = false := by simp [h0]
      go_enter Try.func76, Try.ntmps76
      go_wp2
      go_ret
      exact ⟨by simp [h0], hM⟩
    case pos =>
    subst h0
    have hB2 := Bk.new w xs 76
    go_enter Try.func76, Try.ntmps76
    go_wp2_with (fail)
    refine (H1 _).mono ?_
    rintro e w1 ⟨rfl, hm1⟩
    replace hM := hM.trans hm1 (V := fun _ => False) (fun _ _ h => h) (fun _ _ h => h)
    have b39 := hm1.cell a39 (fun h => h)
    cases c1
    case false =>
      go_wp2
      go_ret
      exact ⟨rfl, hM⟩
    case true =>
      go_wp2_with (fail)
      refine (H2 _).mono ?_
      rintro e w2 ⟨rfl, rfl⟩
      go_wp2
      go_ret
      exact ⟨by simp, hM⟩
  case neg =>
  clear a1 a2 a3 a4 a5 a6 a7 a8 a9 a10 a11 a12 a13 a14 a15 a16 a17 a18 a19 a20 a21 a22 a23 a24 a25 a26 a27 a28 a29 a30 a31 a32 a33 a34 a35 a36 a37 a38 a39
  have hv : well ⟨kd, to, ⟨dq, dr, ds, dn, dt, ⟨k, o, lf, i, p, ps, g, s, st, rs, rr, sq, l⟩⟩, ⟨tq, tr, th, tsq, ta, tl, tst, ti, tk⟩, ⟨js, jp, jc⟩, ⟨cq, cr_, cm, ch_, ce⟩, ⟨bq, br_, bs⟩⟩ = false := by simp [well, hk1, hk2, hk3, hk4, hk5]
  have e1 : (kd == 1) = false := by simp [hk1]
  have e2 : (kd == 2) = false := by simp [hk2]
  have e3 : (kd == 3) = false := by simp [hk3]
  have e4 : (kd == 4) = false := by simp [hk4]
  have e5 : (kd == 5) = false := by simp [hk5]
  rw [hv]
  clear hv
  go_enter Try.func76, Try.ntmps76
  go_wp2
  go_ret
  exact ⟨rfl, hM⟩
end Go.Proofs.Ytajhpnfpjickbaa
