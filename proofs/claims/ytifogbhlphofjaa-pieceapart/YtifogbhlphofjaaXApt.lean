/- PieceApart: parts of one sender make no difference to another one's. No conditions beyond sizes that a slice has. -/
import Derived.Test.YtifogbhlphofjaaXw
import Derived.Test.YtifogbhlphofjaaXf
import Derived.ProofKit
import Derived.OpenShut
import Derived.Deep.Slices
import Derived.Deep.Strs
import Derived.Lib.SmallJoins
import Derived.SizedLaws
namespace Go.Proofs.Ytifogbhlphofjaa
open Go.RowKit Go.Maps
/-- A number of messages. -/
def lim (j n : Nat) : Prop := (j : Int) < 140737488355327 ∧ j < n
/-- Without one origin. -/
def wo (x : Int) (J : Sd → Option Pile) : Sd → Option Pile := fun k => if k.1 = x then none else J k
theorem wo_ok {x : Int} {J : Sd → Option Pile} (h : OkJ J) : OkJ (wo x J) := fun k z hz => by
  unfold wo at hz
  split at hz
  · cases hz
  · exact h k z hz
theorem wo_upd {x : Int} {J : Sd → Option Pile} {k : Sd} {z : Option Pile} (hk : k.1 = x) : wo x (upd J k z) = wo x J := by
  funext i
  unfold wo upd
  by_cases e : i.1 = x
  · rw [if_pos e, if_pos e]
  · rw [if_neg e, if_neg e, if_neg (by intro h; rw [h] at e; exact e hk)]
theorem upd_wo {x : Int} {J : Sd → Option Pile} {k : Sd} {z : Option Pile} (hk : k.1 ≠ x) : upd (wo x J) k z = wo x (upd J k z) := by
  funext i
  unfold wo upd
  by_cases e : i = k
  · subst e
    rw [if_pos rfl, if_pos rfl, if_neg hk]
  · rw [if_neg e, if_neg e]
theorem wo_put_same {x : Int} {J : Sd → Option Pile} {m : Ms} (h : m.origin = x) : wo x (pJ J m) = wo x J := by
  unfold pJ
  split
  · unfold aJ
    split <;> exact wo_upd h
  · rfl
theorem z1_wo {x : Int} {J : Sd → Option Pile} {m : Ms} (h : m.origin ≠ x) : z1 (wo x J) m = z1 J m := by
  unfold z1 wo
  rw [if_neg h]
theorem wo_put {x : Int} {J : Sd → Option Pile} {m : Ms} (h : m.origin ≠ x) : pJ (wo x J) m = wo x (pJ J m) ∧ pO (wo x J) m = pO J m := by
  unfold pJ pO aJ aO
  rw [z1_wo h]
  refine ⟨?_, rfl⟩
  split
  · split <;> exact upd_wo h
  · rfl
set_option maxRecDepth 100000 in
/-- Put, what is told as one slice. -/
theorem Put_u {w : World} {q : Nat} {X : Nat → Prop} {J : Sd → Option Pile} {N : Nat} (k o lf i p ps g : Int) (s : Bool) (st rs rr sq : Int) (ao : Option Addr) (cap : Nat) (l : List Int) (h : Jn w q X J N) (hok : OkJ J) (hs : Sl w (.slice ao l.length cap) l)
    (hN : N < 140737488355328) (hsX : l ≠ [] → ∀ b, (Value.slice ao l.length cap).ownBlock = some b → ¬ X b) :
    Calls Try.prog 18 #[.pointer (some ⟨q, 0, none⟩), .agg #[.int .i64 k, .int .i64 o, .int .i64 lf, .int .i64 i, .int .i64 p, .int .i64 ps, .int .i64 g, .bool s, .int .i64 st, .int .i64 rs, .int .i64 rr, .int .i64 sq, .slice ao l.length cap]] w fun e w' => ∃ X' N' ax cx, e = .returned (.tuple #[.slice ax ((pO J ⟨k, o, lf, i, p, ps, g, s, st, rs, rr, sq, l⟩).getD []).length cx, .bool (pO J ⟨k, o, lf, i, p, ps, g, s, st, rs, rr, sq, l⟩).isSome, .int .i64 (pE ⟨k, o, lf, i, p, ps, g, s, st, rs, rr, sq, l⟩)]) ∧ Jn w' q X' (pJ J ⟨k, o, lf, i, p, ps, g, s, st, rs, rr, sq, l⟩) N' ∧ N' ≤ N + 1 ∧ Gone w X X' ∧ Mod X w w' ∧
      Own w' (.slice ax ((pO J ⟨k, o, lf, i, p, ps, g, s, st, rs, rr, sq, l⟩).getD []).length cx) ((pO J ⟨k, o, lf, i, p, ps, g, s, st, rs, rr, sq, l⟩).getD []) ∧ (∀ c ∈ (pO J ⟨k, o, lf, i, p, ps, g, s, st, rs, rr, sq, l⟩).getD [], 0 ≤ c ∧ c ≤ 255) ∧ (∀ b, (Value.slice ax ((pO J ⟨k, o, lf, i, p, ps, g, s, st, rs, rr, sq, l⟩).getD []).length cx).ownBlock = some b → (X b ∨ w.heap.size ≤ b) ∧ ¬ X' b) := by
  refine (Put_any k o lf i p ps g s st rs rr sq ao cap l h hok hs hN hsX).mono ?_
  rintro e w' ⟨X', N', hj, hn, hg, hm, ⟨hO, rfl⟩ | ⟨L, u, hO, rfl, hu, hr, hb⟩⟩
  · rw [hO]
    exact ⟨X', N', none, 0, rfl, hj, hn, hg, hm, Own.nil _, by simp, by simp [Value.ownBlock]⟩
  · rw [hO]
    obtain ⟨ax, cx, e⟩ := hu.shape
    subst e
    exact ⟨X', N', ax, cx, rfl, hj, hn, hg, hm, hu, hr, hb⟩
/-- A joiner whose blocks are all new since w. -/
structure Jw (w wr : World) (q : Nat) (X : Nat → Prop) (J : Sd → Option Pile) (N : Nat) : Prop where
  jn : Jn wr q X J N
  new : ∀ b, X b → w.heap.size ≤ b
/-- Two joiners, the other one without one origin. -/
def Rl (w wr : World) (n : Nat) (O : Int) (qa qb j : Nat) : Prop := ∃ (Ja : Sd → Option Pile) (Na Nb : Nat) (Xa Xb : Nat → Prop), j ≤ n ∧ Jw w wr qa Xa Ja Na ∧ Jw w wr qb Xb (wo O Ja) Nb ∧ OkJ Ja ∧ Na ≤ j ∧ Nb ≤ j ∧ (∀ b, Xa b → ¬ Xb b) ∧ Mod (fun _ => False) w wr
set_option maxRecDepth 100000 in
set_option maxHeartbeats 4000000 in
theorem apart_walk (va : Value) (ds : List (Ms × Value)) (x : Int) (w : World) (hD : Mgs w va ds) (hx : -9223372036854775808 ≤ x ∧ x ≤ 9223372036854775807) :
    Calls Try.prog 6 #[va, .int .i64 x] w fun e w' => e = .returned (.bool true) ∧ Mod (fun _ => False) w w' := by
  obtain ⟨av, cv, rfl, hlen, hfm⟩ := hD.form
  have hbr := br_rng x 8 (by decide)
  go_enter Try.func6, Try.ntmps6
  go_wp2_with (fail)
  refine (works_any w).mono ?_
  rintro e w1 ⟨rfl, hm1⟩
  go_wp2_with (fail)
  have HB8 := bring x 8 w1 (by decide) (by decide) hx
  have e8 : ((8 : Nat) : Int) = 8 := rfl
  rw [e8] at HB8 hbr
  refine HB8.mono ?_
  rintro e w1 ⟨rfl, rfl⟩
  clear hx HB8 e8
  obtain ⟨O, hO⟩ : ∃ O, O = 1 + br x 8 := ⟨_, rfl⟩
  have hb1 := hbr.1
  have hb2 := hbr.2.1
  clear hbr
  go_wp2_with (fail)
  refine (pNew_any w1).mono ?_
  rintro e w2 ⟨qa, Xa, rfl, hA2, hm2, hXa⟩
  go_wp2_with (fail)
  refine (pNew_any w2).mono ?_
  rintro e w3 ⟨qb, Xb, rfl, hB3, hm3, hXb⟩
  go_wp2_with (fail)
  rw [← hO]
  clear hO hb1 hb2
  have hA3 := hA2.mod hm3 (fun _ _ h => h)
  have hM3 := (hm1.trans hm2 (V := fun _ => False) (fun _ _ h => h) (fun _ _ h => h)).trans hm3 (V := fun _ => False) (fun _ _ h => h) (fun _ _ h => h)
  have hdis : ∀ b, Xa b → ¬ Xb b := fun b h1 h2 => by have a1 := hA2.lt b h1; have a2 := hXb b h2; exact absurd a1 (Nat.not_lt.2 a2)
  have hJa : Jw w w3 qa Xa (fun _ => none) 0 := ⟨hA3, fun b hb => Nat.le_trans hm1.size (hXa b hb)⟩
  have hJb : Jw w w3 qb Xb (fun _ => none) 0 := ⟨hB3, fun b hb => Nat.le_trans (hm1.trans hm2 (V := fun _ => False) (fun _ _ h => h) (fun _ _ h => h)).size (hXb b hb)⟩
  clear hA2 hB3 hA3 hm1 hm2 hm3 hXa hXb
  go_loopw [7, 8, 9, 10, 11, 12, 13] (fun ci x8 x9 x10 x11 x12 x13 wr => ∃ (j : Nat), ci = .int .i64 (j : Int) ∧ Rl w wr ds.length O qa qb j) (fun ci _ _ _ _ _ _ _ => ds.length - (intOf ci).toNat)
  case atStart => exact ⟨0, rfl, fun _ => none, 0, 0, Xa, Xb, Nat.zero_le _, hJa, by
    have e : wo O (fun _ => none) = fun _ => none := by funext k; unfold wo; split <;> rfl
    rw [e]; exact hJb, OkJ.zero, Nat.le_refl _, Nat.le_refl _, hdis, hM3⟩
  case round =>
    obtain ⟨j, rfl, Ja, Na, Nb, Ya, Yb, hj, jA, jB, hok, hNa, hNb, hd, hMr⟩ := hrel
    clear hJa hJb hdis hM3
    by_cases hjn : j < ds.length
    · have hjn' : (j : Int) < (ds.length : Int) := by go_light; omega
      have hjb : j < 140737488355327 := Nat.lt_of_lt_of_le hjn hlen
      have hjb' : (j : Int) < 140737488355327 := by go_light; omega
      obtain ⟨d, hdj⟩ : ∃ d, ds[j]? = some d := ⟨ds[j], List.getElem?_eq_getElem hjn⟩
      obtain ⟨b, off, rfl, hc⟩ := hfm (by intro e; rw [e] at hjn; exact absurd hjn (Nat.not_lt_zero _))
      have hrg := hc j d hdj
      obtain ⟨hsl, _⟩ := hD.each d (List.mem_of_getElem? hdj)
      obtain ⟨⟨k, o, lf, i, p, ps, g, s, st, rs, rr, sq, l⟩, dv⟩ := d
      replace hsl : Sl w dv l := hsl
      obtain ⟨ao, cap, rfl, _⟩ := hsl.form
      simp only at hrg
      have hro : ∀ W, Mod (fun _ => False) w W → W.rangeAt b (off + j * 13) (mcl ⟨k, o, lf, i, p, ps, g, s, st, rs, rr, sq, l⟩ (.slice ao l.length cap)) := fun W hm t c hct => hm.cell (hrg t c hct) (fun h => h)
      have hsr : ∀ W, Mod (fun _ => False) w W → Sl W (.slice ao l.length cap) l := fun W hm => hsl.mod hm (fun _ _ h => h)
      have hsx : ∀ {Y : Nat → Prop}, (∀ b, Y b → w.heap.size ≤ b) → l ≠ [] → ∀ b, (Value.slice ao l.length cap).ownBlock = some b → ¬ Y b := fun hY hl b hb hh => absurd (hsl.lt hl b hb) (Nat.not_lt.2 (hY b hh))
      have HPa := Put_u k o lf i p ps g s st rs rr sq ao cap l jA.jn hok (hsr wr hMr) (by omega) (hsx jA.new)
      obtain ⟨L, hL⟩ : ∃ L, L = (pO Ja ⟨k, o, lf, i, p, ps, g, s, st, rs, rr, sq, l⟩).getD [] := ⟨_, rfl⟩
      obtain ⟨t, ht⟩ : ∃ t, t = (pO Ja ⟨k, o, lf, i, p, ps, g, s, st, rs, rr, sq, l⟩).isSome := ⟨_, rfl⟩
      have hLn : L.length ≤ 240 := by
        rw [hL]
        cases hp : pO Ja ⟨k, o, lf, i, p, ps, g, s, st, rs, rr, sq, l⟩ with
        | none => simp
        | some L' => exact pO_len hok hp
      have hLi : ¬ (240 : Int) < (L.length : Int) := by go_light; omega
      rw [← hL, ← ht] at HPa
      obtain ⟨E, hE⟩ : ∃ E, E = pE ⟨k, o, lf, i, p, ps, g, s, st, rs, rr, sq, l⟩ := ⟨_, rfl⟩
      rw [← hE] at HPa
      have HLL : Hid (L = (pO Ja ⟨k, o, lf, i, p, ps, g, s, st, rs, rr, sq, l⟩).getD []) := hL
      have HTT : Hid (t = (pO Ja ⟨k, o, lf, i, p, ps, g, s, st, rs, rr, sq, l⟩).isSome) := ht
      have HEE : Hid (E = pE ⟨k, o, lf, i, p, ps, g, s, st, rs, rr, sq, l⟩) := hE
      clear hL ht hE
      have c0 : wr.cell? ⟨b, off + j * 13, none⟩ = some (.int .i64 k) := hro wr hMr 0 _ rfl
      have c1 : wr.cell? ⟨b, off + j * 13 + 1, none⟩ = some (.int .i64 o) := hro wr hMr 1 _ rfl
      have c2 : wr.cell? ⟨b, off + j * 13 + 2, none⟩ = some (.int .i64 lf) := hro wr hMr 2 _ rfl
      have c3 : wr.cell? ⟨b, off + j * 13 + 3, none⟩ = some (.int .i64 i) := hro wr hMr 3 _ rfl
      have c4 : wr.cell? ⟨b, off + j * 13 + 4, none⟩ = some (.int .i64 p) := hro wr hMr 4 _ rfl
      have c5 : wr.cell? ⟨b, off + j * 13 + 5, none⟩ = some (.int .i64 ps) := hro wr hMr 5 _ rfl
      have c6 : wr.cell? ⟨b, off + j * 13 + 6, none⟩ = some (.int .i64 g) := hro wr hMr 6 _ rfl
      have c7 : wr.cell? ⟨b, off + j * 13 + 7, none⟩ = some (.bool s) := hro wr hMr 7 _ rfl
      have c8 : wr.cell? ⟨b, off + j * 13 + 8, none⟩ = some (.int .i64 st) := hro wr hMr 8 _ rfl
      have c9 : wr.cell? ⟨b, off + j * 13 + 9, none⟩ = some (.int .i64 rs) := hro wr hMr 9 _ rfl
      have c10 : wr.cell? ⟨b, off + j * 13 + 10, none⟩ = some (.int .i64 rr) := hro wr hMr 10 _ rfl
      have c11 : wr.cell? ⟨b, off + j * 13 + 11, none⟩ = some (.int .i64 sq) := hro wr hMr 11 _ rfl
      have c12 : wr.cell? ⟨b, off + j * 13 + 12, none⟩ = some (.slice ao l.length cap) := hro wr hMr 12 _ rfl
      go_wp2_with (fail)
      refine HPa.mono ?_
      rintro e w4 ⟨Xa4, Na4, ax, cx, rfl, jA4, hNa4, hGa4, hMa4, hox, hrx, hbx⟩
      clear HPa c0 c1 c2 c3 c4 c5 c6 c7 c8 c9 c10 c11 c12
      have hsz4 : w.heap.size ≤ wr.heap.size := hMr.size
      have hMw4 : Mod (fun _ => False) w w4 := hMr.trans hMa4 (fun _ _ h => h) (fun b hb hh => absurd hb (Nat.not_lt.2 (jA.new b hh)))
      have hnA4 : ∀ b, Xa4 b → w.heap.size ≤ b := fun b hh => by rcases hGa4 b hh with h | h; exact jA.new b h; exact Nat.le_trans hsz4 h
      have jB4 := jB.jn.mod hMa4 (fun b hb hh => hd b hh hb)
      have hd4 : ∀ b, Xa4 b → ¬ Yb b := fun b hh hb => by
        rcases hGa4 b hh with h | h
        · exact hd b h hb
        · exact absurd (jB.jn.lt b hb) (Nat.not_lt.2 h)
      by_cases hoO : o = O
      · have e43 : (o == O) = true := by simp [hoO]
        have HoO : Hid (o = O) := hoO
        clear hoO
        have c1 : w4.cell? ⟨b, off + j * 13 + 1, none⟩ = some (.int .i64 o) := hro w4 hMw4 1 _ rfl
        go_wp2_with (fail)
        go_roundw
        case rel => exact ⟨j + 1, by go_num, _, Na4, Nb, Xa4, Yb, hjn, ⟨jA4, hnA4⟩, by rw [wo_put_same (m := ⟨k, o, lf, i, p, ps, g, s, st, rs, rr, sq, l⟩) HoO.out]; exact ⟨jB4, jB.new⟩, hok.put _, Nat.le_trans hNa4 (Nat.succ_le_succ hNa), Nat.le_succ_of_le hNb, hd4, hMw4⟩
        case measure => simp [intOf]; go_light; omega
      · have e43 : (o == O) = false := by simp [hoO]
        obtain ⟨ewJ, ewO⟩ := wo_put (J := Ja) (m := ⟨k, o, lf, i, p, ps, g, s, st, rs, rr, sq, l⟩) hoO
        have HoO : Hid (¬ o = O) := hoO
        clear hoO
        have HPb := Put_u k o lf i p ps g s st rs rr sq ao cap l jB4 (wo_ok hok) (hsr w4 hMw4) (by omega) (hsx jB.new)
        rw [ewO, ewJ, ← HLL.out, ← HTT.out, ← HEE.out] at HPb
        clear ewO ewJ
        have c0 : w4.cell? ⟨b, off + j * 13, none⟩ = some (.int .i64 k) := hro w4 hMw4 0 _ rfl
        have c1 : w4.cell? ⟨b, off + j * 13 + 1, none⟩ = some (.int .i64 o) := hro w4 hMw4 1 _ rfl
        have c2 : w4.cell? ⟨b, off + j * 13 + 2, none⟩ = some (.int .i64 lf) := hro w4 hMw4 2 _ rfl
        have c3 : w4.cell? ⟨b, off + j * 13 + 3, none⟩ = some (.int .i64 i) := hro w4 hMw4 3 _ rfl
        have c4 : w4.cell? ⟨b, off + j * 13 + 4, none⟩ = some (.int .i64 p) := hro w4 hMw4 4 _ rfl
        have c5 : w4.cell? ⟨b, off + j * 13 + 5, none⟩ = some (.int .i64 ps) := hro w4 hMw4 5 _ rfl
        have c6 : w4.cell? ⟨b, off + j * 13 + 6, none⟩ = some (.int .i64 g) := hro w4 hMw4 6 _ rfl
        have c7 : w4.cell? ⟨b, off + j * 13 + 7, none⟩ = some (.bool s) := hro w4 hMw4 7 _ rfl
        have c8 : w4.cell? ⟨b, off + j * 13 + 8, none⟩ = some (.int .i64 st) := hro w4 hMw4 8 _ rfl
        have c9 : w4.cell? ⟨b, off + j * 13 + 9, none⟩ = some (.int .i64 rs) := hro w4 hMw4 9 _ rfl
        have c10 : w4.cell? ⟨b, off + j * 13 + 10, none⟩ = some (.int .i64 rr) := hro w4 hMw4 10 _ rfl
        have c11 : w4.cell? ⟨b, off + j * 13 + 11, none⟩ = some (.int .i64 sq) := hro w4 hMw4 11 _ rfl
        have c12 : w4.cell? ⟨b, off + j * 13 + 12, none⟩ = some (.slice ao l.length cap) := hro w4 hMw4 12 _ rfl
        go_wp2_with (fail)
        refine HPb.mono ?_
        rintro e w5 ⟨Xb5, Nb5, ay, cy, rfl, jB5, hNb5, hGb5, hMb5, hoy, hry, hby⟩
        clear HPb c0 c1 c2 c3 c4 c5 c6 c7 c8 c9 c10 c11 c12
        have hsz5 : w.heap.size ≤ w4.heap.size := hMw4.size
        have hMw5 : Mod (fun _ => False) w w5 := hMw4.trans hMb5 (fun _ _ h => h) (fun b hb hh => absurd hb (Nat.not_lt.2 (jB.new b hh)))
        have hnB5 : ∀ b, Xb5 b → w.heap.size ≤ b := fun b hh => by rcases hGb5 b hh with h | h; exact jB.new b h; exact Nat.le_trans hsz5 h
        have jA5 := jA4.mod hMb5 (fun b hb hh => hd4 b hb hh)
        have hox5 := hox.mod hMb5 (fun b hb hh => by
          rcases (hbx b hb).1 with h | h
          · exact hd b h hh
          · exact absurd (jB.jn.lt b hh) (Nat.not_lt.2 h))
        have hd5 : ∀ b, Xa4 b → ¬ Xb5 b := fun b hh hb => by
          rcases hGb5 b hb with h | h
          · exact hd4 b hh h
          · exact absurd (jA4.lt b hh) (Nat.not_lt.2 h)
        have HE := EqBytes_any _ _ _ _ w5 (hox5.sl hrx) (hoy.sl hry)
        simp only [decide_true] at HE
        have hNle : ¬ (Na4 : Int) < (Nb5 : Int) := by
          have := jB5.cnt.le jA5.cnt (fun k hk => by
            unfold wo at hk
            split at hk
            · cases hk
            · exact hk)
          go_light
          omega
        have et : (t != t) = false := by simp
        have eE : (E != E) = false := by simp
        have HWa : ∀ W, Mod (fun _ => False) w5 W → _ := fun W (hm : Mod (fun _ => False) w5 W) => Wait_any (jA5.mod hm (fun _ _ h => h))
        have HWb : ∀ W, Mod (fun _ => False) w5 W → _ := fun W (hm : Mod (fun _ => False) w5 W) => Wait_any (jB5.mod hm (fun _ _ h => h))
        go_wp2_with (fail)
        refine HE.mono ?_
        rintro e w6 ⟨rfl, hm6⟩
        clear HE
        go_wp2_with (fail)
        refine (HWa w6 hm6).mono ?_
        rintro e w6 ⟨rfl, rfl⟩
        go_wp2_with (fail)
        refine (HWb w6 hm6).mono ?_
        rintro e w6 ⟨rfl, rfl⟩
        have R6 : Rl w w6 ds.length O qa qb (j + 1) := ⟨_, Na4, Nb5, Xa4, Xb5, hjn, ⟨jA5.mod hm6 (fun _ _ h => h), hnA4⟩, ⟨jB5.mod hm6 (fun _ _ h => h), hnB5⟩, hok.put _, Nat.le_trans hNa4 (Nat.succ_le_succ hNa), Nat.le_trans hNb5 (Nat.succ_le_succ hNb), hd5, hMw5.trans hm6 (fun _ _ h => h) (fun _ _ h => h)⟩
        have HJB : lim j ds.length := ⟨hjb', hjn⟩
        clear hj hjn hjb' hjn' hlen hjb HWa HWb et eE jA5 jB5 hox5 hoy hry hby hMb5 hGb5 hNb5 hd5 hMw5 hnB5 hsz5 hm6 hMw4 hnA4 jB4 hd4 hox hrx hbx hMa4 hGa4 hNa4 jA4 jA jB hd hMr hok hNa hNb hsx hsr hro hrg hsl hc hfm hdj hD hsz4 HLL HTT HEE HoO e43
        generalize (Na4 : Int) = An at hNle ⊢
        generalize (Nb5 : Int) = Bn at hNle ⊢
        have hNlt : ¬ An < Bn := Int.not_lt.2 hNle
        clear hNle
        go_upto_region 7 with (fail)
        have hjb' : (j : Int) < 140737488355327 := HJB.1
        go_wp2_with (fail)
        go_roundw
        case rel => exact ⟨j + 1, by go_num, R6⟩
        case measure => have hjn := HJB.2; simp [intOf]; go_light; omega
    · have ej : j = ds.length := by go_light; omega
      subst ej
      go_wp2_with (fail)
      go_ret
      exact ⟨rfl, hMr⟩
namespace pieceApart
open Go.ChangeShapes Go.WideShapes Go.ChangeAt Go.RowKit
set_option maxRecDepth 100000 in
theorem lifted (os : Os) (started : os.Started) (H : Type) (enc : TypeId × Value → H) :
    ReturnsInHanded {} Try.checked os 6 .any (Rows.pieceApartSpec.pre6 enc Try.prog Try.f6 Rows.pieceApartRow.domain false) (Rows.pieceApartSpec.post enc Try.prog Try.f6 false true false false) := by
  refine returnsInHanded_of_change_sized (C := Try.checked) own started (by kernel_rfl) Try.func6
    (ChangeSpec.witness6 (enc := enc) (C := Try.checked) false ⟨#[], #[.slice none 0 0, .int .i64 0], []⟩ 8 (by kernel_rfl) (by kernel_rfl) (by kernel_rfl) (by kernel_rfl)) ?_
  intro W base args ds gs before hval0 hW hcnd hsz0 _
  have hval : ∀ (j : Nat) t v, Try.f6.params[j]? = some t → args[j]? = some v → Value.okWide Try.prog W .any base t v := hval0
  have hsz : (DataW.weightsEach Try.prog (Try.f6.params.toList ++ Rows.pieceApartSpec.plain.varTypes Try.prog) (ds ++ gs)).all (· ≤ reachBytes) = true := hsz0
  have hW' := hW
  obtain ⟨p, q, hA0, hV, rfl, hfz, hnd⟩ := hW
  have hA : DataW.TrodAll enc Try.prog W 0 (fun _ => true) true Try.f6.params.toList args.toList ds p := hA0
  rw [Try.params6] at hA hval hsz
  obtain ⟨v0, vs0, d0, ds0, p0, q0, hargs, rfl, rfl, h0, r0⟩ := trodAll_cons hA
  obtain ⟨v1, vs1, d1, ds1, p1, q1, rfl, rfl, rfl, h1, r1⟩ := trodAll_cons r0
  obtain ⟨rfl, rfl, rfl⟩ := trodAll_nil r1
  obtain rfl : args = #[v0, v1] := by cases args; simp_all
  obtain ⟨rfl, rfl⟩ := trodVars_none hV
  have k0 := h0
  have lt0 : ∀ x ∈ p0, x.block < W.heap.size := by obtain ⟨m, hm⟩ := k0; exact DataW.trod_lt m _ _ _ hm
  obtain ⟨B0, hB0⟩ := open_msgs h0 (okWide_slice Try.underlying31 (hval 0 31 v0 rfl rfl)) (by
    rw [List.all_eq_true] at hsz
    intro n hn
    have := hsz n (DataW.weights_mem_each (t := 31) (j := 0) rfl rfl n hn)
    simpa using this)
  obtain ⟨a1, rfl, rfl, rfl, w1⟩ := open_int Try.underlying3 (hval 1 3 v1 rfl rfl) h1
  clear hA0 hval0
  refine (apart_walk v0 B0 a1 W hB0 (by have := bounds_i64 w1; omega)).mono fun e W' ⟨he, hm⟩ => ?_
  subst he
  have bel : Below W.heap.size W W' := hm.below _ (Nat.le_refl _) (fun _ h => h.elim)
  exact ⟨_, rfl, _, _, _, [], _, [], hW', trodAll_mk1 (shut_bool Try.underlying4 _), (trodAll_cons_mk (Below.trod laidOut (by kernel_rfl) (of_decide_eq_true (by kernel_rfl)) k0 bel lt0) (trodAll_cons_mk (shut_int Try.underlying3 w1) trodAll_mk0)), rfl, bel.frame _, fun h => by cases h⟩

theorem over : Rows.pieceApartRow.holds Try.pinned (OpenSpec.ofChange Rows.pieceApartSpec) :=
  OpenClaim.holds_of_wide 6 Try.f6 rfl rfl rfl rfl rfl rfl rfl ⟨rfl, rfl, rfl, rfl, rfl⟩ rfl rfl rfl rfl rfl (by kernel_rfl) Try.func6 (by kernel_rfl)
    (of_decide_eq_true (by kernel_rfl)) (by unfold Func.isWrapper; first | (rw [if_pos (by decide +kernel)]; kernel_rfl) | (rw [if_neg (by decide +kernel)]; exact ⟨rfl, rfl⟩))
    (fun os started H enc _ => lifted os started H enc)
end pieceApart
theorem pieceApart_holds : Rows.PieceApartSaid := pieceApart.over
end Go.Proofs.Ytifogbhlphofjaa
