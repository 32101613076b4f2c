/- Contracts of a joiner's add and Put, of all messages. Conditions: a joiner that New made; a number of senders that a map can have. -/
import Derived.Test.YtifogbhlphofjaaXap
import Derived.Deep.DeepCutAuto
import Derived.Deep.Light
import Derived.Test.YtifogbhlphofjaaFrx
namespace Go.Proofs.Ytifogbhlphofjaa
open Go.RowKit Go.Maps
/-- What stands of a sender when a message comes. -/
def z1 (J : Sd → Option Pile) (m : Ms) : Pile := if m.part = 0 then ⟨m.id, m.parts, m.groups, m.safe, 0, []⟩ else (J (m.origin, m.life)).getD p0
/-- It goes on with that. -/
def fit (z : Pile) (m : Ms) : Bool := decide (z.id = m.id ∧ z.ps = m.parts ∧ z.g = m.groups ∧ z.s = m.safe) && decide (z.n = m.part)
def more (z : Pile) (m : Ms) : Pile := ⟨z.id, z.ps, z.g, z.s, z.n + 1, z.l ++ m.body⟩
/-- What is under way then, and what is told. -/
def aJ (J : Sd → Option Pile) (m : Ms) : Sd → Option Pile := if fit (z1 J m) m && decide (m.part + 1 ≠ m.parts) then upd J (m.origin, m.life) (some (more (z1 J m) m)) else upd J (m.origin, m.life) none
def aO (J : Sd → Option Pile) (m : Ms) : Option (List Int) := if fit (z1 J m) m && decide (m.part + 1 = m.parts) then some ((z1 J m).l ++ m.body) else none
theorem Jn.under {w : World} {X : Nat → Prop} {J : Sd → Option Pile} {V : Sd → Value} {k : Sd} (h5 : ∀ k z, J k = some z → Own w (V k) z.l ∧ (∀ b, (V k).ownBlock = some b → X b) ∧ (∀ c ∈ z.l, 0 ≤ c ∧ c ≤ 255)) :
    ∃ v, mv (J k) (V k) = pv ((J k).getD p0) v ∧ Own w v ((J k).getD p0).l ∧ (∀ b, v.ownBlock = some b → X b ∧ (V k).ownBlock = some b ∧ (J k).isSome = true) ∧ (∀ c ∈ ((J k).getD p0).l, 0 ≤ c ∧ c ≤ 255) := by
  cases hJ : J k with
  | none => exact ⟨.slice none 0 0, rfl, Own.nil w, by simp [Value.ownBlock], by simp [p0]⟩
  | some z =>
    obtain ⟨a1, a2, a3⟩ := h5 k z hJ
    exact ⟨V k, rfl, a1, fun b hb => ⟨a2 b hb, hb, rfl⟩, a3⟩
theorem Own.ne_map {w : World} {v : Value} {l : List Int} {B : Nat} {J : Sd → Option Pile} {V : Sd → Value} {N : Nat} (h : Own w v l) (hx : Mx w B J V N) : v.ownBlock ≠ some B := fun e => by
  obtain ⟨cur, hc⟩ := h.kind e
  obtain ⟨es, clock, hb⟩ := hx.kind
  rw [hc] at hb
  cases hb
theorem Own.ne_bk {w : World} {v : Value} {l : List Int} {q : Nat} {xs : Array Value} (h : Own w v l) (hx : Bk w q 62 xs) : v.ownBlock ≠ some q := fun e => by
  obtain ⟨cur, hc⟩ := h.kind e
  rw [hx.at'] at hc
  simp at hc
theorem Mx.ne_bk {w : World} {B q : Nat} {J : Sd → Option Pile} {V : Sd → Value} {N : Nat} {t : TypeId} {xs : Array Value} (h : Mx w B J V N) (hx : Bk w q t xs) : q ≠ B := fun e => by
  subst e
  obtain ⟨es, clock, hb⟩ := h.kind
  rw [hx.at'] at hb
  cases hb
/-- The joiner behind what a sender had is taken out, or put in. -/
theorem Jn.out {w w' : World} {q B N M : Nat} {X : Nat → Prop} {J : Sd → Option Pile} {V : Sd → Value} {k : Sd} {v : Value} {vl : List Int} (h1 : Bk w q 62 #[.map (some B)]) (h2 : X q) (h3 : X B) (h4 : Mx w B J V N)
    (h5 : ∀ k z, J k = some z → Own w (V k) z.l ∧ (∀ b, (V k).ownBlock = some b → X b) ∧ (∀ c ∈ z.l, 0 ≤ c ∧ c ≤ 255)) (h6 : ∀ k j z z', J k = some z → J j = some z' → k ≠ j → ∀ b, (V k).ownBlock = some b → (V j).ownBlock ≠ some b) (h7 : ∀ b, X b → b < w.heap.size)
    (hv : Own w v vl) (hvX : ∀ b, v.ownBlock = some b → X b ∧ (V k).ownBlock = some b ∧ (J k).isSome = true) (hm : Mod (fun b => b = B ∨ v.ownBlock = some b) w w') (hx : Mx w' B (upd J k none) V M) : Jn w' q (fun b => X b ∧ v.ownBlock ≠ some b) (upd J k none) M := by
  refine ⟨⟨B, V, h1.mod hm (fun e => ?_), ⟨h2, hv.ne_bk h1⟩, ⟨h3, hv.ne_map h4⟩, hx, fun j z hz => ?_, fun j j' z z' hz hz' => ?_⟩, fun b hb => Nat.lt_of_lt_of_le (h7 b hb.1) hm.size⟩
  · rcases e with e | e
    · exact h4.ne_bk h1 e
    · exact hv.ne_bk h1 e
  · by_cases e : j = k
    · rw [e, upd_same] at hz; cases hz
    · rw [upd_other J _ e] at hz
      obtain ⟨a1, a2, a3⟩ := h5 j z hz
      have hap : ∀ b, (V j).ownBlock = some b → v.ownBlock ≠ some b := fun b hb hvb => by
        obtain ⟨_, b2, b3⟩ := hvX b hvb
        obtain ⟨zk, hzk⟩ := Option.isSome_iff_exists.1 b3
        exact h6 j k z zk hz hzk e b hb b2
      refine ⟨a1.mod hm (fun b hb e' => ?_), fun b hb => ⟨a2 b hb, hap b hb⟩, a3⟩
      rcases e' with e' | e'
      · exact a1.ne_map h4 (e' ▸ hb)
      · exact hap b hb e'
  · by_cases e : j = k
    · rw [e, upd_same] at hz; cases hz
    · by_cases e' : j' = k
      · rw [e', upd_same] at hz'; cases hz'
      · rw [upd_other J _ e] at hz
        rw [upd_other J _ e'] at hz'
        exact h6 j j' z z' hz hz'
theorem Jn.inn {w w' : World} {q B N M : Nat} {X : Nat → Prop} {J : Sd → Option Pile} {V : Sd → Value} {k : Sd} {v u : Value} {vl : List Int} {y : Pile} (h1 : Bk w q 62 #[.map (some B)]) (h2 : X q) (h3 : X B) (h4 : Mx w B J V N)
    (h5 : ∀ k z, J k = some z → Own w (V k) z.l ∧ (∀ b, (V k).ownBlock = some b → X b) ∧ (∀ c ∈ z.l, 0 ≤ c ∧ c ≤ 255)) (h6 : ∀ k j z z', J k = some z → J j = some z' → k ≠ j → ∀ b, (V k).ownBlock = some b → (V j).ownBlock ≠ some b) (h7 : ∀ b, X b → b < w.heap.size)
    (hv : Own w v vl) (hvX : ∀ b, v.ownBlock = some b → X b ∧ (V k).ownBlock = some b ∧ (J k).isSome = true) (hm : Mod (fun b => b = B ∨ v.ownBlock = some b) w w') (hu : Own w' u y.l) (hr : ∀ c ∈ y.l, 0 ≤ c ∧ c ≤ 255)
    (hf : ∀ b, u.ownBlock = some b → v.ownBlock = some b ∨ w.heap.size ≤ b) (hx : Mx w' B (upd J k (some y)) (upd V k u) M) : Jn w' q (fun b => X b ∨ u.ownBlock = some b) (upd J k (some y)) M := by
  have hap : ∀ j z, j ≠ k → J j = some z → ∀ b, (V j).ownBlock = some b → u.ownBlock ≠ some b := fun j z e hz b hb hub => by
    rcases hf b hub with hvb | hvb
    · obtain ⟨_, b2, b3⟩ := hvX b hvb
      obtain ⟨zk, hzk⟩ := Option.isSome_iff_exists.1 b3
      exact h6 j k z zk hz hzk e b hb b2
    · have := h7 b ((h5 j z hz).2.1 b hb)
      omega
  refine ⟨⟨B, upd V k u, h1.mod hm (fun e => ?_), .inl h2, .inl h3, hx, fun j z hz => ?_, fun j j' z z' hz hz' hne => ?_⟩, fun b hb => ?_⟩
  · rcases e with e | e
    · exact h4.ne_bk h1 e
    · exact hv.ne_bk h1 e
  · by_cases e : j = k
    · rw [e, upd_same] at hz
      rw [e, upd_same]
      cases hz
      exact ⟨hu, fun b hb => .inr hb, hr⟩
    · rw [upd_other J _ e] at hz
      rw [upd_other V _ e]
      obtain ⟨a1, a2, a3⟩ := h5 j z hz
      refine ⟨a1.mod hm (fun b hb e' => ?_), fun b hb => .inl (a2 b hb), a3⟩
      rcases e' with e' | e'
      · exact a1.ne_map h4 (e' ▸ hb)
      · obtain ⟨_, b2, b3⟩ := hvX b e'
        obtain ⟨zk, hzk⟩ := Option.isSome_iff_exists.1 b3
        exact h6 j k z zk hz hzk e b hb b2
  · by_cases e : j = k
    · by_cases e' : j' = k
      · exact absurd (e.trans e'.symm) hne
      · rw [upd_other J _ e'] at hz'
        rw [e, upd_same, upd_other V _ e']
        exact fun b hb hb' => hap j' z' e' hz' b hb' hb
    · rw [upd_other J _ e] at hz
      rw [upd_other V _ e]
      by_cases e' : j' = k
      · rw [e', upd_same]
        exact hap j z e hz
      · rw [upd_other J _ e'] at hz'
        rw [upd_other V _ e']
        exact h6 j j' z z' hz hz' hne
  · rcases hb with hb | hb
    · exact Nat.lt_of_lt_of_le (h7 b hb) hm.size
    · exact hu.lt b hb
/-- A call, as a step of a statement that draws its order. -/
theorem step_label {ops : Array Oper} {o : Oper} {a : Act} {w : World} {K : Act → World → Prop} {Q : Exit → Act → World → Prop} {E : Prop} (hgd : o.guard = none) (x : Operand)
    (ho : o.op = .call { callee := .value (.func 41), args := #[x], argTypes := #[28] }) (v : Value) (hx : a.eval x = v) (R : Value → World → Prop)
    (HB : Calls Try.prog 41 #[v] w fun e w' => ∃ r, e = .returned r ∧ R r w') (h : ∀ r w', R r w' → K (a.put o.dst r) w') :
    if Region.wanted o (yielded ops a.tmps) = true then Oper.wp Try.prog o a w K Q else E := by
  rw [if_pos (by simp [Region.wanted, hgd])]
  refine wp_enter (by rw [exec_call1 a.eval (fun args w => by simp [go_sem]) rfl ho, hx]) HB ?_
  rintro e w' ⟨r, rfl, hr⟩
  exact ⟨_, rfl, h r w' hr⟩
theorem eqLb (a b c a' b' c' : Int) (d d' : Bool) (w : World) : (Op.equalIn 10000 80 (.agg #[.int .i64 a, .int .i64 b, .int .i64 c, .bool d]) (.agg #[.int .i64 a', .int .i64 b', .int .i64 c', .bool d'])).run Try.prog w = .ok (decide (a = a' ∧ b = b' ∧ c = c' ∧ d = d')) w := by
  by_cases h1 : a = a' <;> by_cases h2 : b = b' <;> by_cases h3 : c = c' <;> by_cases h4 : d = d' <;> simp [go_sem, h1, h2, h3, h4]
set_option maxRecDepth 100000 in
set_option maxHeartbeats 4000000 in
theorem add_any {w : World} {q : Nat} {X : Nat → Prop} {J : Sd → Option Pile} {N : Nat} (k o lf i p ps g : Int) (s : Bool) (st rs rr sq : Int) (ao : Option Addr) (cap : Nat) (l : List Int) (h : Jn w q X J N) (hs : Sl w (.slice ao l.length cap) l) (hlen : l.length ≤ 160) (ho : I64 o) (hl : I64 lf)
    (hp : 0 ≤ p ∧ p ≤ 4) (hN : N < 140737488355328) (hzl : ∀ z, J (o, lf) = some z → z.l.length ≤ 1000000) (hsX : l ≠ [] → ∀ b, (Value.slice ao l.length cap).ownBlock = some b → ¬ X b) :
    Calls Try.prog 32 #[.pointer (some ⟨q, 0, none⟩), .agg #[.int .i64 k, .int .i64 o, .int .i64 lf, .int .i64 i, .int .i64 p, .int .i64 ps, .int .i64 g, .bool s, .int .i64 st, .int .i64 rs, .int .i64 rr, .int .i64 sq, .slice ao l.length cap]] w fun e w' => ∃ X' N', Jn w' q X' (aJ J ⟨k, o, lf, i, p, ps, g, s, st, rs, rr, sq, l⟩) N' ∧ N' ≤ N + 1 ∧ Gone w X X' ∧ Mod X w w' ∧
      ((aO J ⟨k, o, lf, i, p, ps, g, s, st, rs, rr, sq, l⟩ = none ∧ e = .returned (.tuple #[.slice none 0 0, .bool false])) ∨ (∃ L u, aO J ⟨k, o, lf, i, p, ps, g, s, st, rs, rr, sq, l⟩ = some L ∧ e = .returned (.tuple #[u, .bool true]) ∧ Own w' u L ∧ (∀ c ∈ L, 0 ≤ c ∧ c ≤ 255) ∧ (∀ b, u.ownBlock = some b → (X b ∨ w.heap.size ≤ b) ∧ ¬ X' b))) := by
  have HP : Hid (0 ≤ p ∧ p ≤ 4) := hp
  clear hp
  obtain ⟨⟨B, V, h1, h2, h3, h4, h5, h6⟩, h7⟩ := h
  have hK : Sdi (o, lf) := ⟨ho, hl⟩
  obtain ⟨v, ev, hv, hvX, hvr⟩ := Jn.under (k := (o, lf)) h5
  have hzl' : ((J (o, lf)).getD p0).l.length ≤ 1000000 := by
    cases hJ : J (o, lf) with
    | none => simp [p0]
    | some z => exact hzl z hJ
  have hz1 : z1 J ⟨k, o, lf, i, p, ps, g, s, st, rs, rr, sq, l⟩ = if p = 0 then ⟨i, ps, g, s, 0, []⟩ else (J (o, lf)).getD p0 := rfl
  have haJ : aJ J ⟨k, o, lf, i, p, ps, g, s, st, rs, rr, sq, l⟩ = if fit (z1 J ⟨k, o, lf, i, p, ps, g, s, st, rs, rr, sq, l⟩) ⟨k, o, lf, i, p, ps, g, s, st, rs, rr, sq, l⟩ && decide (p + 1 ≠ ps) then upd J (o, lf) (some (more (z1 J ⟨k, o, lf, i, p, ps, g, s, st, rs, rr, sq, l⟩) ⟨k, o, lf, i, p, ps, g, s, st, rs, rr, sq, l⟩)) else upd J (o, lf) none := rfl
  have haO : aO J ⟨k, o, lf, i, p, ps, g, s, st, rs, rr, sq, l⟩ = if fit (z1 J ⟨k, o, lf, i, p, ps, g, s, st, rs, rr, sq, l⟩) ⟨k, o, lf, i, p, ps, g, s, st, rs, rr, sq, l⟩ && decide (p + 1 = ps) then some ((z1 J ⟨k, o, lf, i, p, ps, g, s, st, rs, rr, sq, l⟩).l ++ l) else none := rfl
  generalize aJ J ⟨k, o, lf, i, p, ps, g, s, st, rs, rr, sq, l⟩ = J1 at haJ ⊢
  generalize aO J ⟨k, o, lf, i, p, ps, g, s, st, rs, rr, sq, l⟩ = O1 at haO ⊢
  generalize z1 J ⟨k, o, lf, i, p, ps, g, s, st, rs, rr, sq, l⟩ = Z at haJ haO hz1
  generalize (J (o, lf)).getD p0 = z at ev hv hvr hz1 hzl'
  obtain ⟨av, cv, rfl⟩ := hv.shape
  obtain ⟨zi, zp, zg, zs, zn, zl⟩ := z
  have HZ : Hid (Z = if p = 0 then ⟨i, ps, g, s, 0, []⟩ else ⟨zi, zp, zg, zs, zn, zl⟩) := hz1
  have HJ : Hid _ := haJ
  have HO : Hid _ := haO
  have HL : Hid (zl.length ≤ 1000000) := hzl'
  clear hz1 haJ haO hzl' hzl
  have hM0 := ((Mod.refl (fun _ => False) w).alloc (.cells #[.int .i64 k, .int .i64 o, .int .i64 lf, .int .i64 i, .int .i64 p, .int .i64 ps, .int .i64 g, .bool s, .int .i64 st, .int .i64 rs, .int .i64 rr, .int .i64 sq, .slice ao l.length cap] 28)).alloc (.cells #[.int .i64 o, .int .i64 lf] 78)
  have hB0 := Bk.new w #[.int .i64 k, .int .i64 o, .int .i64 lf, .int .i64 i, .int .i64 p, .int .i64 ps, .int .i64 g, .bool s, .int .i64 st, .int .i64 rs, .int .i64 rr, .int .i64 sq, .slice ao l.length cap] 28
  have hB1 := Bk.new2 w (.cells #[.int .i64 k, .int .i64 o, .int .i64 lf, .int .i64 i, .int .i64 p, .int .i64 ps, .int .i64 g, .bool s, .int .i64 st, .int .i64 rs, .int .i64 rr, .int .i64 sq, .slice ao l.length cap] 28) #[.int .i64 o, .int .i64 lf] 78
  replace hB0 := hB0.mod ((Mod.refl (fun _ => False) _).alloc (.cells #[.int .i64 o, .int .i64 lf] 78)) (fun h => h)
  obtain ⟨b0, hb0⟩ : ∃ b, b = w.heap.size := ⟨_, rfl⟩
  have hsz : ((w.alloc (.cells #[.int .i64 k, .int .i64 o, .int .i64 lf, .int .i64 i, .int .i64 p, .int .i64 ps, .int .i64 g, .bool s, .int .i64 st, .int .i64 rs, .int .i64 rr, .int .i64 sq, .slice ao l.length cap] 28)).alloc (.cells #[.int .i64 o, .int .i64 lf] 78)).heap.size = b0 + 2 := by simp [hb0]
  have hBlt : Hid (B < b0 ∧ q < b0 ∧ q ≠ B) := by
    have e := hb0
    have a1 := h7 B h3
    have a2 := h7 q h2
    have a3 := h4.ne_bk h1
    show _ ∧ _ ∧ _
    omega
  have hneB : ∀ j, ¬ (b0 + j = B) := fun j e => by have := hBlt.out; omega
  go_enter Try.func32, Try.ntmps32
  go_upto_region 2 with (fail)
  rw [← hb0] at hB0 hB1 ⊢
  have HB0 : Hid (b0 = w.heap.size) := hb0
  clear hb0
  generalize hW : (w.alloc (.cells #[.int .i64 k, .int .i64 o, .int .i64 lf, .int .i64 i, .int .i64 p, .int .i64 ps, .int .i64 g, .bool s, .int .i64 st, .int .i64 rs, .int .i64 rr, .int .i64 sq, .slice ao l.length cap] 28)).alloc (.cells #[.int .i64 o, .int .i64 lf] 78) = W at *
  clear hW
  have HSZ : Hid (W.heap.size = b0 + 2) := hsz
  clear hsz
  go_cut [7] (fun s7 wx => s7 = .pointer (some ⟨W.heap.size, 0, none⟩) ∧ wx = (W.alloc (.cells #[.int .i64 zi, .int .i64 zp, .int .i64 zg, .bool zs, .int .i64 zn, .slice av zl.length cv] 82)).drew)
  case first =>
    have f0 : W.cell? ⟨b0 + 1, 0, none⟩ = some (.int .i64 o) := hB1.cellv (j := 0) rfl
    have f1 : W.cell? ⟨b0 + 1, 1, none⟩ = some (.int .i64 lf) := hB1.cellv (j := 1) rfl
    have c0 : W.cell? ⟨q, 0, none⟩ = some (.map (some B)) := (h1.mod hM0 (fun h => h)).cellv (j := 0) rfl
    have hX0 := h4.mod hM0 (fun h => h)
    have hl1 := (hX0.mod ((Mod.refl (fun _ => False) W).drew) (fun h => h)).look hK
    have hMA := (Mod.refl (fun _ => False) W).alloc (.cells #[.int .i64 0, .int .i64 0, .int .i64 0, .bool false, .int .i64 0, .slice none 0 0] 82)
    have g0 := hMA.cell f0 (fun h => h)
    have g1 := hMA.cell f1 (fun h => h)
    have d0 := hMA.cell c0 (fun h => h)
    have hl2 := (hX0.mod hMA.drew (fun h => h)).look hK
    rw [ev] at hl1 hl2
    simp only [kv, pv] at hl1 hl2
    clear hB0 hB1 h1 h4 h5 h6 h7 hX0 hv hvX hvr ev hM0 hMA hs ho hl hK h2 h3 hsX
    go_region
    all_goals go_wp2_with (fail)
    all_goals go_meet
    all_goals exact ⟨rfl, rfl⟩
  case rest =>
  obtain ⟨e7, ew⟩ := hcut
  subst e7
  have hM1 : Mod (fun _ => False) W wc := by rw [ew]; exact ((Mod.refl _ W).alloc _).drew
  have hPl : Bk wc W.heap.size 82 #[.int .i64 zi, .int .i64 zp, .int .i64 zg, .bool zs, .int .i64 zn, .slice av zl.length cv] := by rw [ew]; exact (Bk.new W _ _).drew
  clear ew
  obtain ⟨bp, hbp⟩ : ∃ b, b = W.heap.size := ⟨_, rfl⟩
  rw [← hbp] at hPl
  rw [HSZ.out] at hbp
  have HBP : Hid (bp = b0 + 2) := hbp
  replace hB0 := hB0.mod hM1 (fun h => h)
  replace hB1 := hB1.mod hM1 (fun h => h)
  have hMw := hM0.trans hM1 (V := fun _ => False) (fun _ _ h => h) (fun _ _ h => h)
  have hX1 := (h4.mod hMw (fun h => h)).mod ((Mod.refl (fun _ => False) wc).drew) (fun h => h)
  have c0 : wc.cell? ⟨q, 0, none⟩ = some (.map (some B)) := (h1.mod hMw (fun h => h)).cellv (j := 0) rfl
  have f0 : wc.cell? ⟨b0 + 1, 0, none⟩ = some (.int .i64 o) := hB1.cellv (j := 0) rfl
  have f1 : wc.cell? ⟨b0 + 1, 1, none⟩ = some (.int .i64 lf) := hB1.cellv (j := 1) rfl
  obtain ⟨w3, hrun, ⟨M, hMN, hX3⟩, ht3⟩ := hX1.drop hK 0
  simp only [kv] at hrun
  have e7 : W.heap.size = bp := by rw [HSZ.out, HBP.out]
  rw [e7]
  clear e7 hbp
  clear hX1
  go_wp2_with (fail)
  go_region
  have hm3 := (Mod.refl (fun b => b = B) wc.drew).turned ht3 (.inl rfl)
  have hm3' := ((Mod.refl (fun b => b = B) wc).drew).trans hm3 (V := fun b => b = B) (fun _ _ h => h) (fun _ _ h => h)
  replace hB0 := hB0.mod hm3' (hneB 0)
  replace hB1 := hB1.mod hm3' (hneB 1)
  replace hPl := hPl.mod hm3' (by rw [HBP.out]; exact hneB 2)
  have hMw3 : Mod (fun b => b = B) w w3 := hMw.trans hm3' (fun _ _ h => h.elim) (fun _ _ h => h)
  have h13 := h1.mod hMw3 hBlt.out.2.2
  have hv3 := hv.mod hMw3 (fun b hb e => by subst e; exact hv.ne_map h4 hb)
  clear hrun f0 f1 c0 hm3 hm3' ht3 hM1 hM0 hMw
  have G : ∀ (wx : World) (yi yp yg : Int) (ys : Bool) (yn : Int) (yl : List Int) (au : Option Addr) (cu : Nat), Hid (Z = ⟨yi, yp, yg, ys, yn, yl⟩) → True := fun _ _ _ _ _ _ _ _ _ _ => trivial
  clear G
  have hE1 : ∀ b, (Value.slice av zl.length cv).ownBlock = some b → X b ∧ (V (o, lf)).ownBlock = some b ∧ (J (o, lf)).isSome = true := hvX
  rcases Classical.em (p = 0) with hp0 | hp0
  · have e0 : (p == 0) = true := by simp [hp0]
    have HP0 : Hid (p = 0) := hp0
    clear hp0
    have m0 : w3.cell? ⟨b0, 0, none⟩ = some (.int .i64 k) := hB0.cellv (j := 0) rfl
    have m1 : w3.cell? ⟨b0, 1, none⟩ = some (.int .i64 o) := hB0.cellv (j := 1) rfl
    have m2 : w3.cell? ⟨b0, 2, none⟩ = some (.int .i64 lf) := hB0.cellv (j := 2) rfl
    have m3 : w3.cell? ⟨b0, 3, none⟩ = some (.int .i64 i) := hB0.cellv (j := 3) rfl
    have m4 : w3.cell? ⟨b0, 4, none⟩ = some (.int .i64 p) := hB0.cellv (j := 4) rfl
    have m5 : w3.cell? ⟨b0, 5, none⟩ = some (.int .i64 ps) := hB0.cellv (j := 5) rfl
    have m6 : w3.cell? ⟨b0, 6, none⟩ = some (.int .i64 g) := hB0.cellv (j := 6) rfl
    have m7 : w3.cell? ⟨b0, 7, none⟩ = some (.bool s) := hB0.cellv (j := 7) rfl
    have m8 : w3.cell? ⟨b0, 8, none⟩ = some (.int .i64 st) := hB0.cellv (j := 8) rfl
    have m9 : w3.cell? ⟨b0, 9, none⟩ = some (.int .i64 rs) := hB0.cellv (j := 9) rfl
    have m10 : w3.cell? ⟨b0, 10, none⟩ = some (.int .i64 rr) := hB0.cellv (j := 10) rfl
    have m11 : w3.cell? ⟨b0, 11, none⟩ = some (.int .i64 sq) := hB0.cellv (j := 11) rfl
    have m12 : w3.cell? ⟨b0, 12, none⟩ = some (.slice ao l.length cap) := hB0.cellv (j := 12) rfl
    have HL0 := labelOf_any k o lf i p ps g s st rs rr sq (.slice ao l.length cap) w3
    go_upto_region 6 with (first | (go_at_call 41; refine HL0.mono ?_; rintro e w4 ⟨rfl, hm4⟩; replace hPl := hPl.mod hm4 (fun h => h)) | (refine wpList_store_row infoPi rfl rfl _ _ rfl bp #[.int .i64 i, .int .i64 ps, .int .i64 g, .bool s, .int .i64 0, .slice none 0 0] rfl rfl hPl rfl rfl rfl ?_; intro w5 hPl5 hm5))
    clear m0 m1 m2 m3 m4 m5 m6 m7 m8 m9 m10 m11 m12 HL0
    have hbq : ∀ j, j < bp → ¬ j = bp := fun j hj e => Nat.lt_irrefl _ (e ▸ hj)
    have hb0p : b0 < bp ∧ b0 + 1 < bp ∧ B < bp := by rw [HBP.out]; exact ⟨Nat.lt_add_of_pos_right (by decide), Nat.lt_succ_self _, Nat.lt_of_lt_of_le hBlt.out.1 (Nat.le_add_right _ _)⟩
    replace hB0 := (hB0.mod hm4 (fun h => h)).mod hm5 (hbq _ hb0p.1)
    replace hB1 := (hB1.mod hm4 (fun h => h)).mod hm5 (hbq _ hb0p.2.1)
    replace hX3 := (hX3.mod hm4 (fun h => h)).mod hm5 (hbq _ hb0p.2.2)
    have hMy : Mod (fun b => b = B) w w5 := (hMw3.trans hm4 (V := fun b => b = B) (fun _ _ h => h) (fun _ _ h => h.elim)).trans hm5 (fun _ _ h => h) (fun b hb e => by rw [e, HBP.out, HB0.out] at hb; exact absurd hb (Nat.not_lt.2 (Nat.le_add_right _ _)))
    have hy : ∃ (yi yp yg : Int) (ys : Bool) (yn : Int) (yl : List Int) (au : Option Addr) (cu : Nat), Z = ⟨yi, yp, yg, ys, yn, yl⟩ ∧ Bk w5 bp 82 #[.int .i64 yi, .int .i64 yp, .int .i64 yg, .bool ys, .int .i64 yn, .slice au yl.length cu] ∧ Own w5 (.slice au yl.length cu) yl ∧ (∀ c ∈ yl, 0 ≤ c ∧ c ≤ 255) ∧ yl.length ≤ 1000000 ∧ (∀ b, (Value.slice au yl.length cu).ownBlock = some b → (Value.slice av zl.length cv).ownBlock = some b) := ⟨i, ps, g, s, 0, [], none, 0, by rw [HZ.out, if_pos HP0.out], hPl5, Own.nil _, by simp, by simp, by simp [Value.ownBlock]⟩
    clear hPl5 hm4 hm5 hMw3 h13 hv3 hbq hb0p
    obtain ⟨yi, yp, yg, ys, yn, yl, au, cu, hz', hPy, hu, hyr, hyl, huv⟩ := hy
    replace HZ : Hid (Z = ⟨yi, yp, yg, ys, yn, yl⟩) := hz'
    have HLy : Hid (yl.length ≤ 1000000) := hyl
    clear hz' hyl HL
    replace hPl := hPy
    clear hPy
    have m0 : w5.cell? ⟨b0, 0, none⟩ = some (.int .i64 k) := hB0.cellv (j := 0) rfl
    have m1 : w5.cell? ⟨b0, 1, none⟩ = some (.int .i64 o) := hB0.cellv (j := 1) rfl
    have m2 : w5.cell? ⟨b0, 2, none⟩ = some (.int .i64 lf) := hB0.cellv (j := 2) rfl
    have m3 : w5.cell? ⟨b0, 3, none⟩ = some (.int .i64 i) := hB0.cellv (j := 3) rfl
    have m4 : w5.cell? ⟨b0, 4, none⟩ = some (.int .i64 p) := hB0.cellv (j := 4) rfl
    have m5 : w5.cell? ⟨b0, 5, none⟩ = some (.int .i64 ps) := hB0.cellv (j := 5) rfl
    have m6 : w5.cell? ⟨b0, 6, none⟩ = some (.int .i64 g) := hB0.cellv (j := 6) rfl
    have m7 : w5.cell? ⟨b0, 7, none⟩ = some (.bool s) := hB0.cellv (j := 7) rfl
    have m8 : w5.cell? ⟨b0, 8, none⟩ = some (.int .i64 st) := hB0.cellv (j := 8) rfl
    have m9 : w5.cell? ⟨b0, 9, none⟩ = some (.int .i64 rs) := hB0.cellv (j := 9) rfl
    have m10 : w5.cell? ⟨b0, 10, none⟩ = some (.int .i64 rr) := hB0.cellv (j := 10) rfl
    have m11 : w5.cell? ⟨b0, 11, none⟩ = some (.int .i64 sq) := hB0.cellv (j := 11) rfl
    have m12 : w5.cell? ⟨b0, 12, none⟩ = some (.slice ao l.length cap) := hB0.cellv (j := 12) rfl
    have hneb : Hid (bp ≠ q ∧ bp ≠ b0 ∧ bp ≠ b0 + 1 ∧ bp ≠ B ∧ w.heap.size ≤ bp) := by
      have e1 := HBP.out
      have e2 := HB0.out
      have e3 := hBlt.out
      show _ ∧ _ ∧ _ ∧ _ ∧ _
      go_light
      omega
    have HLb : Calls Try.prog 41 #[.agg #[.int .i64 k, .int .i64 o, .int .i64 lf, .int .i64 i, .int .i64 p, .int .i64 ps, .int .i64 g, .bool s, .int .i64 st, .int .i64 rs, .int .i64 rr, .int .i64 sq, .slice ao l.length cap]] w5.drew fun e w' => ∃ r, e = .returned r ∧ (r = .agg #[.int .i64 i, .int .i64 ps, .int .i64 g, .bool s] ∧ Mod (fun _ => False) w5.drew w') := (labelOf_any k o lf i p ps g s st rs rr sq (.slice ao l.length cap) w5.drew).mono fun e w' hh => ⟨_, hh.1, rfl, hh.2⟩
    have hEq := eqLb yi yp yg i ps g ys s
    obtain ⟨C, hC⟩ : ∃ C : Bool, C = decide (yi = i ∧ yp = ps ∧ yg = g ∧ ys = s) := ⟨_, rfl⟩
    rw [← hC] at hEq
    have HC : Hid (C = decide (yi = i ∧ yp = ps ∧ yg = g ∧ ys = s)) := hC
    clear hC
    obtain ⟨D, hD⟩ : ∃ D : Bool, D = (yn == p) := ⟨_, rfl⟩
    have eD : (yn == p) = D := hD.symm
    have HD : Hid (D = (yn == p)) := hD
    clear hD
    have q0 : w5.cell? ⟨bp, 0, none⟩ = some (.int .i64 yi) := hPl.cellv (j := 0) rfl
    have q1 : w5.cell? ⟨bp, 1, none⟩ = some (.int .i64 yp) := hPl.cellv (j := 1) rfl
    have q2 : w5.cell? ⟨bp, 2, none⟩ = some (.int .i64 yg) := hPl.cellv (j := 2) rfl
    have q3 : w5.cell? ⟨bp, 3, none⟩ = some (.bool ys) := hPl.cellv (j := 3) rfl
    have q4 : w5.cell? ⟨bp, 4, none⟩ = some (.int .i64 yn) := hPl.cellv (j := 4) rfl
    have HFit : Hid (fit Z ⟨k, o, lf, i, p, ps, g, s, st, rs, rr, sq, l⟩ = (C && D)) := by
      show _ = _
      rw [HZ.out, HC.out, HD.out]
      simp only [fit]
      congr 1
    go_cut [41] (fun s41 wx => s41 = .bool (!(C && D)) ∧ Mod (fun _ => False) w5 wx)
    case first =>
      have hmd := (Mod.refl (fun _ => False) w5).drew
      clear HFit HC HD hB0 hB1 hPl hX3 hE1 hu hyr huv hMy h1 h2 h3 h4 h5 h6 h7 hv hvX hvr hs hsX hK
      rcases C with _ | _
      · first | go_region_law (refine step_label (by rfl) _ (by rfl) _ (by rfl) _ HLb ?_; rintro r w6 ⟨rfl, hm6⟩; replace q0 : w6.cell? ⟨bp, 0, none⟩ = some (.int .i64 yi) := hm6.cell q0 (fun h => h); replace q1 : w6.cell? ⟨bp, 1, none⟩ = some (.int .i64 yp) := hm6.cell q1 (fun h => h); replace q2 : w6.cell? ⟨bp, 2, none⟩ = some (.int .i64 yg) := hm6.cell q2 (fun h => h); replace q3 : w6.cell? ⟨bp, 3, none⟩ = some (.bool ys) := hm6.cell q3 (fun h => h); replace q4 : w6.cell? ⟨bp, 4, none⟩ = some (.int .i64 yn) := hm6.cell q4 (fun h => h); replace m4 : w6.cell? ⟨b0, 4, none⟩ = some (.int .i64 p) := hm6.cell m4 (fun h => h)) | fail
        all_goals go_wp2_with (fail)
        all_goals go_meet
        all_goals exact ⟨rfl, hmd.trans hm6 (fun _ _ h => h) (fun _ _ h => h)⟩
      · go_region_law (refine step_label (by rfl) _ (by rfl) _ (by rfl) _ HLb ?_; rintro r w6 ⟨rfl, hm6⟩; replace q0 : w6.cell? ⟨bp, 0, none⟩ = some (.int .i64 yi) := hm6.cell q0 (fun h => h); replace q1 : w6.cell? ⟨bp, 1, none⟩ = some (.int .i64 yp) := hm6.cell q1 (fun h => h); replace q2 : w6.cell? ⟨bp, 2, none⟩ = some (.int .i64 yg) := hm6.cell q2 (fun h => h); replace q3 : w6.cell? ⟨bp, 3, none⟩ = some (.bool ys) := hm6.cell q3 (fun h => h); replace q4 : w6.cell? ⟨bp, 4, none⟩ = some (.int .i64 yn) := hm6.cell q4 (fun h => h); replace m4 : w6.cell? ⟨b0, 4, none⟩ = some (.int .i64 p) := hm6.cell m4 (fun h => h))
        all_goals go_wp2_with (fail)
        all_goals go_meet
        all_goals exact ⟨by show Value.bool (!(yn == p)) = _; rw [eD]; rfl, hmd.trans hm6 (fun _ _ h => h) (fun _ _ h => h)⟩
    case rest =>
    obtain ⟨e41, hm6⟩ := hcut
    subst e41
    generalize wc = w6 at *
    clear hEq HLb m0 m1 m2 m3 m4 m5 m6 m7 m8 m9 m10 m11 m12 q0 q1 q2 q3 q4 e0
    have hM6 : Mod (fun b => b = B) w w6 := hMy.trans hm6 (fun _ _ h => h) (fun _ _ h => h.elim)
    rcases hCD : (C && D) with _ | _
    · rw [hCD] at HFit
      go_wp2
      go_ret2
      have hX6 := hX3.mod hm6 (fun h => h)
      have hM6' : Mod (fun b => b = B ∨ (Value.slice av zl.length cv).ownBlock = some b) w w6 := hM6.mono (fun _ _ h => .inl h)
      have eJ : J1 = upd J (o, lf) none := by
        rw [HJ.out, HFit.out]
        simp
      have eO : O1 = none := by
        rw [HO.out, HFit.out]
        simp
      rw [eJ, eO]
      exact ⟨_, M, Jn.out h1 h2 h3 h4 h5 h6 h7 hv hE1 hM6' hX6, Nat.le_succ_of_le hMN, fun b hb => .inl hb.1, hM6.mono (fun b _ hb => hb ▸ h3), .inl ⟨rfl, rfl⟩⟩
    · rw [hCD] at HFit
      have hDt : D = true := by
        cases D with
        | true => rfl
        | false => simp at hCD
      rw [hDt] at eD
      clear hCD hDt
      focus
        have hyn : yn = p := by simpa using eD
        have hp1 := HP.out
        have y1 : 0 ≤ yn := by go_light; omega
        have y2 : yn ≤ 4 := by go_light; omega
        have HY : Hid (yn = p) := hyn
        clear hyn hp1
        have hm6' := hm6
        replace hPl := hPl.mod hm6' (fun h => h)
        replace hB0 := hB0.mod hm6' (fun h => h)
        replace hB1 := hB1.mod hm6' (fun h => h)
        replace hX3 := hX3.mod hm6' (fun h => h)
        replace hu := hu.mod hm6' (fun _ _ h => h)
        have z4 := hPl.frz 4
        have q4 : w6.cell? ⟨bp, 4, none⟩ = some (.int .i64 yn) := hPl.cellv (j := 4) rfl
        clear eD hm6
        go_upto_region 9 with (fail)
        have hm7 := (Mod.refl (fun b => b = bp) w6).setCell ⟨bp, 4, none⟩ (.int .i64 (yn + 1)) (.inl rfl)
        have hPl7 := hPl.set 4 (.int .i64 (yn + 1))
        generalize w6.setCell ⟨bp, 4, none⟩ (.int .i64 (yn + 1)) = w7 at *
        simp only [List.setIfInBounds_toArray, List.set_cons_succ, List.set_cons_zero] at hPl7
        replace hB0 := hB0.mod hm7 (fun e => hneb.out.2.1 e.symm)
        replace hB1 := hB1.mod hm7 (fun e => hneb.out.2.2.1 e.symm)
        replace hX3 := hX3.mod hm7 (fun e => hneb.out.2.2.2.1 e.symm)
        have hune : ∀ b, (Value.slice au yl.length cu).ownBlock = some b → b ≠ bp := fun b hb e => by
          obtain ⟨cur, hcur⟩ := hu.kind hb
          rw [e, hPl.at'] at hcur
          simp at hcur
        replace hu := hu.mod hm7 hune
        have hM7 : Mod (fun b => b = B) w w7 := hM6.trans hm7 (fun _ _ h => h) (fun b hb e => by have := hneb.out.2.2.2.2; rw [e] at hb; exact absurd hb (Nat.not_lt.2 this))
        have hs7 : Sl w7 (.slice ao l.length cap) l := hs.mod2 hM7 (fun hne b hb e => hsX hne b hb (e ▸ h3))
        have m12 : w7.cell? ⟨b0, 12, none⟩ = some (.slice ao l.length cap) := hB0.cellv (j := 12) rfl
        have q5 : w7.cell? ⟨bp, 5, none⟩ = some (.slice au yl.length cu) := hPl7.cellv (j := 5) rfl
        have hlen2 : yl.length + l.length ≤ 140737488355328 := by have := HLy.out; go_light; omega
        clear q4 z4
        obtain ⟨rl, hrl⟩ : ∃ r, r = yl ++ l := ⟨_, rfl⟩
        have HRL : Hid (rl = yl ++ l) := hrl
        have hrr : ∀ c ∈ rl, 0 ≤ c ∧ c ≤ 255 := by rw [hrl]; exact rng_app hyr hs.rng
        clear hrl
        go_upto_region 10 with (at_builtin; refine wpList_app rfl _ _ rfl (.slice au yl.length cu) (.slice ao l.length cap) yl l rfl rfl hu hs7 hlen2 rl HRL ?_; intro a2 c2 w8 hu8 hm8 hf8; have hPl8 := hPl7.mod hm8 (fun e => hune _ e rfl); have z5 := hPl8.frz 5; replace q5 : w8.cell? ⟨bp, 5, none⟩ = some (.slice au yl.length cu) := hPl8.cellv (j := 5) rfl)
        have hm9 := (Mod.refl (fun b => b = bp) w8).setCell ⟨bp, 5, none⟩ (.slice a2 rl.length c2) (.inl rfl)
        have hPl9 := hPl8.set 5 (.slice a2 rl.length c2)
        generalize w8.setCell ⟨bp, 5, none⟩ (.slice a2 rl.length c2) = w9 at *
        simp only [List.setIfInBounds_toArray, List.set_cons_succ, List.set_cons_zero] at hPl9
        have hSa : Mod (fun b => b = B ∨ (Value.slice av zl.length cv).ownBlock = some b) w w8 := hM7.trans hm8 (fun _ _ h => .inl h) (fun b _ e => .inr (huv b e))
        have hM9 : Mod (fun b => b = B ∨ (Value.slice av zl.length cv).ownBlock = some b) w w9 := hSa.trans hm9 (fun _ _ h => h) (fun b hb e => by have := hneb.out.2.2.2.2; rw [e] at hb; exact absurd hb (Nat.not_lt.2 this))
        have hne8 : ∀ b, (Value.slice a2 rl.length c2).ownBlock = some b → b ≠ bp := fun b hb e => by
          obtain ⟨cur, hcur⟩ := hu8.kind hb
          rw [e, hPl8.at'] at hcur
          simp at hcur
        have hu9 := hu8.mod hm9 hne8
        have hB08 : ∀ j, j = b0 ∨ j = b0 + 1 → (Value.slice au yl.length cu).ownBlock ≠ some j := fun j hj e => by
          obtain ⟨cur, hcur⟩ := hu.kind e
          rcases hj with rfl | rfl
          · rw [hB0.at'] at hcur; simp at hcur
          · rw [hB1.at'] at hcur; simp at hcur
        replace hB0 := (hB0.mod hm8 (hB08 _ (.inl rfl))).mod hm9 (fun e => hneb.out.2.1 e.symm)
        replace hB1 := (hB1.mod hm8 (hB08 _ (.inr rfl))).mod hm9 (fun e => hneb.out.2.2.1 e.symm)
        replace hX3 := (hX3.mod hm8 (hu.ne_map hX3)).mod hm9 (fun e => hneb.out.2.2.2.1 e.symm)
        have hwf : Hid (w.heap.size ≤ w7.heap.size) := hM7.size
        have hfa : ∀ b, (Value.slice a2 rl.length c2).ownBlock = some b → (Value.slice av zl.length cv).ownBlock = some b ∨ w.heap.size ≤ b := fun b hb => by
          rcases hf8 b hb with e | e
          · exact .inl (huv b e)
          · exact .inr (Nat.le_trans hwf.out e)
        have m5 : w9.cell? ⟨b0, 5, none⟩ = some (.int .i64 ps) := hB0.cellv (j := 5) rfl
        have q4 : w9.cell? ⟨bp, 4, none⟩ = some (.int .i64 (yn + 1)) := hPl9.cellv (j := 4) rfl
        clear m12 q5 z5
        rcases Classical.em (p + 1 = ps) with hW | hW
        · have eW : (yn + 1 == ps) = true := by rw [HY.out]; simpa using hW
          have HW : Hid (p + 1 = ps) := hW
          clear hW
          have q5 : w9.cell? ⟨bp, 5, none⟩ = some (.slice a2 rl.length c2) := hPl9.cellv (j := 5) rfl
          go_wp2_with (fail)
          go_ret2
          have eJ : J1 = upd J (o, lf) none := by
            rw [HJ.out, HFit.out]
            simp [HW.out]
          have eO : O1 = some rl := by
            rw [HO.out, HFit.out, HZ.out, HRL.out]
            simp [HW.out]
          rw [eJ, eO]
          exact ⟨_, M, Jn.out h1 h2 h3 h4 h5 h6 h7 hv hE1 hM9 hX3, Nat.le_succ_of_le hMN, fun b hb => .inl hb.1, hM9.mono (fun b _ hb => by rcases hb with e | e; exact e ▸ h3; exact (hE1 b e).1), .inr ⟨_, _, rfl, rfl, hu9, hrr, fun b hb => by
            rcases hfa b hb with e | e
            · exact ⟨.inl (hE1 b e).1, fun hh => hh.2 e⟩
            · exact ⟨.inr e, fun hh => absurd (h7 b hh.1) (Nat.not_lt.2 e)⟩⟩⟩
        · have eW : (yn + 1 == ps) = false := by rw [HY.out]; simpa using hW
          have HW : Hid (¬ p + 1 = ps) := hW
          clear hW
          obtain ⟨w10, hrun, hX10, ht10⟩ := (hX3.mod ((Mod.refl (fun _ => False) w9).drew) (fun h => h)).store hK (by simp [upd_same]) (by simp only [maxLen]; omega) ⟨yi, yp, yg, ys, yn + 1, rl⟩ (.slice a2 rl.length c2)
          simp only [kv, pv] at hrun
          have c0 : w9.cell? ⟨q, 0, none⟩ = some (.map (some B)) := (h1.mod hM9 (fun e => by rcases e with e | e; exact hBlt.out.2.2 e; exact hv.ne_bk h1 e)).cellv (j := 0) rfl
          have f0 : w9.cell? ⟨b0 + 1, 0, none⟩ = some (.int .i64 o) := hB1.cellv (j := 0) rfl
          have f1 : w9.cell? ⟨b0 + 1, 1, none⟩ = some (.int .i64 lf) := hB1.cellv (j := 1) rfl
          have q0 : w9.cell? ⟨bp, 0, none⟩ = some (.int .i64 yi) := hPl9.cellv (j := 0) rfl
          have q1 : w9.cell? ⟨bp, 1, none⟩ = some (.int .i64 yp) := hPl9.cellv (j := 1) rfl
          have q2 : w9.cell? ⟨bp, 2, none⟩ = some (.int .i64 yg) := hPl9.cellv (j := 2) rfl
          have q3 : w9.cell? ⟨bp, 3, none⟩ = some (.bool ys) := hPl9.cellv (j := 3) rfl
          have q5 : w9.cell? ⟨bp, 5, none⟩ = some (.slice a2 rl.length c2) := hPl9.cellv (j := 5) rfl
          go_wp2_with (fail)
          go_region
          go_wp2_with (fail)
          go_ret2
          have eJ : J1 = upd J (o, lf) (some ⟨yi, yp, yg, ys, yn + 1, rl⟩) := by
            rw [HJ.out, HFit.out, HZ.out, HRL.out]
            simp [HW.out, more]
          have eO : O1 = none := by
            rw [HO.out, HFit.out]
            simp [HW.out]
          rw [eJ, eO]
          rw [upd_upd] at hX10
          have hM10 : Mod (fun b => b = B ∨ (Value.slice av zl.length cv).ownBlock = some b) w w10 := (hM9.drew).turned ht10 (.inl (.inl rfl))
          have hu10 := hu9.mod (((Mod.refl (fun b => b = B) w9).drew).turned ht10 (.inl rfl)) (fun b hb e => by subst e; exact hu9.ne_map hX3 hb)
          exact ⟨_, M + 1, Jn.inn h1 h2 h3 h4 h5 h6 h7 hv hE1 hM10 hu10 hrr hfa hX10, Nat.succ_le_succ hMN, fun b hb => by
            rcases hb with hb | hb
            · exact .inl hb
            · rcases hfa b hb with e | e
              · exact .inl (hE1 b e).1
              · exact .inr e, hM10.mono (fun b _ hb => by rcases hb with e | e; exact e ▸ h3; exact (hE1 b e).1), .inl ⟨rfl, rfl⟩⟩
  · have e0 : (p == 0) = false := by simp [hp0]
    have HP0 : Hid (¬ p = 0) := hp0
    clear hp0
    have m0 : w3.cell? ⟨b0, 0, none⟩ = some (.int .i64 k) := hB0.cellv (j := 0) rfl
    have m1 : w3.cell? ⟨b0, 1, none⟩ = some (.int .i64 o) := hB0.cellv (j := 1) rfl
    have m2 : w3.cell? ⟨b0, 2, none⟩ = some (.int .i64 lf) := hB0.cellv (j := 2) rfl
    have m3 : w3.cell? ⟨b0, 3, none⟩ = some (.int .i64 i) := hB0.cellv (j := 3) rfl
    have m4 : w3.cell? ⟨b0, 4, none⟩ = some (.int .i64 p) := hB0.cellv (j := 4) rfl
    have m5 : w3.cell? ⟨b0, 5, none⟩ = some (.int .i64 ps) := hB0.cellv (j := 5) rfl
    have m6 : w3.cell? ⟨b0, 6, none⟩ = some (.int .i64 g) := hB0.cellv (j := 6) rfl
    have m7 : w3.cell? ⟨b0, 7, none⟩ = some (.bool s) := hB0.cellv (j := 7) rfl
    have m8 : w3.cell? ⟨b0, 8, none⟩ = some (.int .i64 st) := hB0.cellv (j := 8) rfl
    have m9 : w3.cell? ⟨b0, 9, none⟩ = some (.int .i64 rs) := hB0.cellv (j := 9) rfl
    have m10 : w3.cell? ⟨b0, 10, none⟩ = some (.int .i64 rr) := hB0.cellv (j := 10) rfl
    have m11 : w3.cell? ⟨b0, 11, none⟩ = some (.int .i64 sq) := hB0.cellv (j := 11) rfl
    have m12 : w3.cell? ⟨b0, 12, none⟩ = some (.slice ao l.length cap) := hB0.cellv (j := 12) rfl
    go_upto_region 6 with (fail)
    have hy : ∃ (yi yp yg : Int) (ys : Bool) (yn : Int) (yl : List Int) (au : Option Addr) (cu : Nat), Z = ⟨yi, yp, yg, ys, yn, yl⟩ ∧ Bk w3 bp 82 #[.int .i64 yi, .int .i64 yp, .int .i64 yg, .bool ys, .int .i64 yn, .slice au yl.length cu] ∧ Own w3 (.slice au yl.length cu) yl ∧ (∀ c ∈ yl, 0 ≤ c ∧ c ≤ 255) ∧ yl.length ≤ 1000000 ∧ (∀ b, (Value.slice au yl.length cu).ownBlock = some b → (Value.slice av zl.length cv).ownBlock = some b) := ⟨zi, zp, zg, zs, zn, zl, av, cv, by rw [HZ.out, if_neg HP0.out], hPl, hv3, hvr, HL.out, fun _ h => h⟩
    have hMy := hMw3
    clear hMw3 h13 hv3
    obtain ⟨yi, yp, yg, ys, yn, yl, au, cu, hz', hPy, hu, hyr, hyl, huv⟩ := hy
    replace HZ : Hid (Z = ⟨yi, yp, yg, ys, yn, yl⟩) := hz'
    have HLy : Hid (yl.length ≤ 1000000) := hyl
    clear hz' hyl HL
    replace hPl := hPy
    clear hPy
    have hneb : Hid (bp ≠ q ∧ bp ≠ b0 ∧ bp ≠ b0 + 1 ∧ bp ≠ B ∧ w.heap.size ≤ bp) := by
      have e1 := HBP.out
      have e2 := HB0.out
      have e3 := hBlt.out
      show _ ∧ _ ∧ _ ∧ _ ∧ _
      go_light
      omega
    have HLb : Calls Try.prog 41 #[.agg #[.int .i64 k, .int .i64 o, .int .i64 lf, .int .i64 i, .int .i64 p, .int .i64 ps, .int .i64 g, .bool s, .int .i64 st, .int .i64 rs, .int .i64 rr, .int .i64 sq, .slice ao l.length cap]] w3.drew fun e w' => ∃ r, e = .returned r ∧ (r = .agg #[.int .i64 i, .int .i64 ps, .int .i64 g, .bool s] ∧ Mod (fun _ => False) w3.drew w') := (labelOf_any k o lf i p ps g s st rs rr sq (.slice ao l.length cap) w3.drew).mono fun e w' hh => ⟨_, hh.1, rfl, hh.2⟩
    have hEq := eqLb yi yp yg i ps g ys s
    obtain ⟨C, hC⟩ : ∃ C : Bool, C = decide (yi = i ∧ yp = ps ∧ yg = g ∧ ys = s) := ⟨_, rfl⟩
    rw [← hC] at hEq
    have HC : Hid (C = decide (yi = i ∧ yp = ps ∧ yg = g ∧ ys = s)) := hC
    clear hC
    obtain ⟨D, hD⟩ : ∃ D : Bool, D = (yn == p) := ⟨_, rfl⟩
    have eD : (yn == p) = D := hD.symm
    have HD : Hid (D = (yn == p)) := hD
    clear hD
    have q0 : w3.cell? ⟨bp, 0, none⟩ = some (.int .i64 yi) := hPl.cellv (j := 0) rfl
    have q1 : w3.cell? ⟨bp, 1, none⟩ = some (.int .i64 yp) := hPl.cellv (j := 1) rfl
    have q2 : w3.cell? ⟨bp, 2, none⟩ = some (.int .i64 yg) := hPl.cellv (j := 2) rfl
    have q3 : w3.cell? ⟨bp, 3, none⟩ = some (.bool ys) := hPl.cellv (j := 3) rfl
    have q4 : w3.cell? ⟨bp, 4, none⟩ = some (.int .i64 yn) := hPl.cellv (j := 4) rfl
    have HFit : Hid (fit Z ⟨k, o, lf, i, p, ps, g, s, st, rs, rr, sq, l⟩ = (C && D)) := by
      show _ = _
      rw [HZ.out, HC.out, HD.out]
      simp only [fit]
      congr 1
    go_cut [41] (fun s41 wx => s41 = .bool (!(C && D)) ∧ Mod (fun _ => False) w3 wx)
    case first =>
      have hmd := (Mod.refl (fun _ => False) w3).drew
      clear HFit HC HD hB0 hB1 hPl hX3 hE1 hu hyr huv hMy h1 h2 h3 h4 h5 h6 h7 hv hvX hvr hs hsX hK
      rcases C with _ | _
      · first | go_region_law (refine step_label (by rfl) _ (by rfl) _ (by rfl) _ HLb ?_; rintro r w6 ⟨rfl, hm6⟩; replace q0 : w6.cell? ⟨bp, 0, none⟩ = some (.int .i64 yi) := hm6.cell q0 (fun h => h); replace q1 : w6.cell? ⟨bp, 1, none⟩ = some (.int .i64 yp) := hm6.cell q1 (fun h => h); replace q2 : w6.cell? ⟨bp, 2, none⟩ = some (.int .i64 yg) := hm6.cell q2 (fun h => h); replace q3 : w6.cell? ⟨bp, 3, none⟩ = some (.bool ys) := hm6.cell q3 (fun h => h); replace q4 : w6.cell? ⟨bp, 4, none⟩ = some (.int .i64 yn) := hm6.cell q4 (fun h => h); replace m4 : w6.cell? ⟨b0, 4, none⟩ = some (.int .i64 p) := hm6.cell m4 (fun h => h)) | fail
        all_goals go_wp2_with (fail)
        all_goals go_meet
        all_goals exact ⟨rfl, hmd.trans hm6 (fun _ _ h => h) (fun _ _ h => h)⟩
      · go_region_law (refine step_label (by rfl) _ (by rfl) _ (by rfl) _ HLb ?_; rintro r w6 ⟨rfl, hm6⟩; replace q0 : w6.cell? ⟨bp, 0, none⟩ = some (.int .i64 yi) := hm6.cell q0 (fun h => h); replace q1 : w6.cell? ⟨bp, 1, none⟩ = some (.int .i64 yp) := hm6.cell q1 (fun h => h); replace q2 : w6.cell? ⟨bp, 2, none⟩ = some (.int .i64 yg) := hm6.cell q2 (fun h => h); replace q3 : w6.cell? ⟨bp, 3, none⟩ = some (.bool ys) := hm6.cell q3 (fun h => h); replace q4 : w6.cell? ⟨bp, 4, none⟩ = some (.int .i64 yn) := hm6.cell q4 (fun h => h); replace m4 : w6.cell? ⟨b0, 4, none⟩ = some (.int .i64 p) := hm6.cell m4 (fun h => h))
        all_goals go_wp2_with (fail)
        all_goals go_meet
        all_goals exact ⟨by show Value.bool (!(yn == p)) = _; rw [eD]; rfl, hmd.trans hm6 (fun _ _ h => h) (fun _ _ h => h)⟩
    case rest =>
    obtain ⟨e41, hm6⟩ := hcut
    subst e41
    generalize wc = w6 at *
    clear hEq HLb m0 m1 m2 m3 m4 m5 m6 m7 m8 m9 m10 m11 m12 q0 q1 q2 q3 q4 e0
    have hM6 : Mod (fun b => b = B) w w6 := hMy.trans hm6 (fun _ _ h => h) (fun _ _ h => h.elim)
    rcases hCD : (C && D) with _ | _
    · rw [hCD] at HFit
      go_wp2
      go_ret2
      have hX6 := hX3.mod hm6 (fun h => h)
      have hM6' : Mod (fun b => b = B ∨ (Value.slice av zl.length cv).ownBlock = some b) w w6 := hM6.mono (fun _ _ h => .inl h)
      have eJ : J1 = upd J (o, lf) none := by
        rw [HJ.out, HFit.out]
        simp
      have eO : O1 = none := by
        rw [HO.out, HFit.out]
        simp
      rw [eJ, eO]
      exact ⟨_, M, Jn.out h1 h2 h3 h4 h5 h6 h7 hv hE1 hM6' hX6, Nat.le_succ_of_le hMN, fun b hb => .inl hb.1, hM6.mono (fun b _ hb => hb ▸ h3), .inl ⟨rfl, rfl⟩⟩
    · rw [hCD] at HFit
      have hDt : D = true := by
        cases D with
        | true => rfl
        | false => simp at hCD
      rw [hDt] at eD
      clear hCD hDt
      focus
        have hyn : yn = p := by simpa using eD
        have hp1 := HP.out
        have y1 : 0 ≤ yn := by go_light; omega
        have y2 : yn ≤ 4 := by go_light; omega
        have HY : Hid (yn = p) := hyn
        clear hyn hp1
        have hm6' := hm6
        replace hPl := hPl.mod hm6' (fun h => h)
        replace hB0 := hB0.mod hm6' (fun h => h)
        replace hB1 := hB1.mod hm6' (fun h => h)
        replace hX3 := hX3.mod hm6' (fun h => h)
        replace hu := hu.mod hm6' (fun _ _ h => h)
        have z4 := hPl.frz 4
        have q4 : w6.cell? ⟨bp, 4, none⟩ = some (.int .i64 yn) := hPl.cellv (j := 4) rfl
        clear eD hm6
        go_upto_region 9 with (fail)
        have hm7 := (Mod.refl (fun b => b = bp) w6).setCell ⟨bp, 4, none⟩ (.int .i64 (yn + 1)) (.inl rfl)
        have hPl7 := hPl.set 4 (.int .i64 (yn + 1))
        generalize w6.setCell ⟨bp, 4, none⟩ (.int .i64 (yn + 1)) = w7 at *
        simp only [List.setIfInBounds_toArray, List.set_cons_succ, List.set_cons_zero] at hPl7
        replace hB0 := hB0.mod hm7 (fun e => hneb.out.2.1 e.symm)
        replace hB1 := hB1.mod hm7 (fun e => hneb.out.2.2.1 e.symm)
        replace hX3 := hX3.mod hm7 (fun e => hneb.out.2.2.2.1 e.symm)
        have hune : ∀ b, (Value.slice au yl.length cu).ownBlock = some b → b ≠ bp := fun b hb e => by
          obtain ⟨cur, hcur⟩ := hu.kind hb
          rw [e, hPl.at'] at hcur
          simp at hcur
        replace hu := hu.mod hm7 hune
        have hM7 : Mod (fun b => b = B) w w7 := hM6.trans hm7 (fun _ _ h => h) (fun b hb e => by have := hneb.out.2.2.2.2; rw [e] at hb; exact absurd hb (Nat.not_lt.2 this))
        have hs7 : Sl w7 (.slice ao l.length cap) l := hs.mod2 hM7 (fun hne b hb e => hsX hne b hb (e ▸ h3))
        have m12 : w7.cell? ⟨b0, 12, none⟩ = some (.slice ao l.length cap) := hB0.cellv (j := 12) rfl
        have q5 : w7.cell? ⟨bp, 5, none⟩ = some (.slice au yl.length cu) := hPl7.cellv (j := 5) rfl
        have hlen2 : yl.length + l.length ≤ 140737488355328 := by have := HLy.out; go_light; omega
        clear q4 z4
        obtain ⟨rl, hrl⟩ : ∃ r, r = yl ++ l := ⟨_, rfl⟩
        have HRL : Hid (rl = yl ++ l) := hrl
        have hrr : ∀ c ∈ rl, 0 ≤ c ∧ c ≤ 255 := by rw [hrl]; exact rng_app hyr hs.rng
        clear hrl
        go_upto_region 10 with (at_builtin; refine wpList_app rfl _ _ rfl (.slice au yl.length cu) (.slice ao l.length cap) yl l rfl rfl hu hs7 hlen2 rl HRL ?_; intro a2 c2 w8 hu8 hm8 hf8; have hPl8 := hPl7.mod hm8 (fun e => hune _ e rfl); have z5 := hPl8.frz 5; replace q5 : w8.cell? ⟨bp, 5, none⟩ = some (.slice au yl.length cu) := hPl8.cellv (j := 5) rfl)
        have hm9 := (Mod.refl (fun b => b = bp) w8).setCell ⟨bp, 5, none⟩ (.slice a2 rl.length c2) (.inl rfl)
        have hPl9 := hPl8.set 5 (.slice a2 rl.length c2)
        generalize w8.setCell ⟨bp, 5, none⟩ (.slice a2 rl.length c2) = w9 at *
        simp only [List.setIfInBounds_toArray, List.set_cons_succ, List.set_cons_zero] at hPl9
        have hSa : Mod (fun b => b = B ∨ (Value.slice av zl.length cv).ownBlock = some b) w w8 := hM7.trans hm8 (fun _ _ h => .inl h) (fun b _ e => .inr (huv b e))
        have hM9 : Mod (fun b => b = B ∨ (Value.slice av zl.length cv).ownBlock = some b) w w9 := hSa.trans hm9 (fun _ _ h => h) (fun b hb e => by have := hneb.out.2.2.2.2; rw [e] at hb; exact absurd hb (Nat.not_lt.2 this))
        have hne8 : ∀ b, (Value.slice a2 rl.length c2).ownBlock = some b → b ≠ bp := fun b hb e => by
          obtain ⟨cur, hcur⟩ := hu8.kind hb
          rw [e, hPl8.at'] at hcur
          simp at hcur
        have hu9 := hu8.mod hm9 hne8
        have hB08 : ∀ j, j = b0 ∨ j = b0 + 1 → (Value.slice au yl.length cu).ownBlock ≠ some j := fun j hj e => by
          obtain ⟨cur, hcur⟩ := hu.kind e
          rcases hj with rfl | rfl
          · rw [hB0.at'] at hcur; simp at hcur
          · rw [hB1.at'] at hcur; simp at hcur
        replace hB0 := (hB0.mod hm8 (hB08 _ (.inl rfl))).mod hm9 (fun e => hneb.out.2.1 e.symm)
        replace hB1 := (hB1.mod hm8 (hB08 _ (.inr rfl))).mod hm9 (fun e => hneb.out.2.2.1 e.symm)
        replace hX3 := (hX3.mod hm8 (hu.ne_map hX3)).mod hm9 (fun e => hneb.out.2.2.2.1 e.symm)
        have hwf : Hid (w.heap.size ≤ w7.heap.size) := hM7.size
        have hfa : ∀ b, (Value.slice a2 rl.length c2).ownBlock = some b → (Value.slice av zl.length cv).ownBlock = some b ∨ w.heap.size ≤ b := fun b hb => by
          rcases hf8 b hb with e | e
          · exact .inl (huv b e)
          · exact .inr (Nat.le_trans hwf.out e)
        have m5 : w9.cell? ⟨b0, 5, none⟩ = some (.int .i64 ps) := hB0.cellv (j := 5) rfl
        have q4 : w9.cell? ⟨bp, 4, none⟩ = some (.int .i64 (yn + 1)) := hPl9.cellv (j := 4) rfl
        clear m12 q5 z5
        rcases Classical.em (p + 1 = ps) with hW | hW
        · have eW : (yn + 1 == ps) = true := by rw [HY.out]; simpa using hW
          have HW : Hid (p + 1 = ps) := hW
          clear hW
          have q5 : w9.cell? ⟨bp, 5, none⟩ = some (.slice a2 rl.length c2) := hPl9.cellv (j := 5) rfl
          go_wp2_with (fail)
          go_ret2
          have eJ : J1 = upd J (o, lf) none := by
            rw [HJ.out, HFit.out]
            simp [HW.out]
          have eO : O1 = some rl := by
            rw [HO.out, HFit.out, HZ.out, HRL.out]
            simp [HW.out]
          rw [eJ, eO]
          exact ⟨_, M, Jn.out h1 h2 h3 h4 h5 h6 h7 hv hE1 hM9 hX3, Nat.le_succ_of_le hMN, fun b hb => .inl hb.1, hM9.mono (fun b _ hb => by rcases hb with e | e; exact e ▸ h3; exact (hE1 b e).1), .inr ⟨_, _, rfl, rfl, hu9, hrr, fun b hb => by
            rcases hfa b hb with e | e
            · exact ⟨.inl (hE1 b e).1, fun hh => hh.2 e⟩
            · exact ⟨.inr e, fun hh => absurd (h7 b hh.1) (Nat.not_lt.2 e)⟩⟩⟩
        · have eW : (yn + 1 == ps) = false := by rw [HY.out]; simpa using hW
          have HW : Hid (¬ p + 1 = ps) := hW
          clear hW
          obtain ⟨w10, hrun, hX10, ht10⟩ := (hX3.mod ((Mod.refl (fun _ => False) w9).drew) (fun h => h)).store hK (by simp [upd_same]) (by simp only [maxLen]; omega) ⟨yi, yp, yg, ys, yn + 1, rl⟩ (.slice a2 rl.length c2)
          simp only [kv, pv] at hrun
          have c0 : w9.cell? ⟨q, 0, none⟩ = some (.map (some B)) := (h1.mod hM9 (fun e => by rcases e with e | e; exact hBlt.out.2.2 e; exact hv.ne_bk h1 e)).cellv (j := 0) rfl
          have f0 : w9.cell? ⟨b0 + 1, 0, none⟩ = some (.int .i64 o) := hB1.cellv (j := 0) rfl
          have f1 : w9.cell? ⟨b0 + 1, 1, none⟩ = some (.int .i64 lf) := hB1.cellv (j := 1) rfl
          have q0 : w9.cell? ⟨bp, 0, none⟩ = some (.int .i64 yi) := hPl9.cellv (j := 0) rfl
          have q1 : w9.cell? ⟨bp, 1, none⟩ = some (.int .i64 yp) := hPl9.cellv (j := 1) rfl
          have q2 : w9.cell? ⟨bp, 2, none⟩ = some (.int .i64 yg) := hPl9.cellv (j := 2) rfl
          have q3 : w9.cell? ⟨bp, 3, none⟩ = some (.bool ys) := hPl9.cellv (j := 3) rfl
          have q5 : w9.cell? ⟨bp, 5, none⟩ = some (.slice a2 rl.length c2) := hPl9.cellv (j := 5) rfl
          go_wp2_with (fail)
          go_region
          go_wp2_with (fail)
          go_ret2
          have eJ : J1 = upd J (o, lf) (some ⟨yi, yp, yg, ys, yn + 1, rl⟩) := by
            rw [HJ.out, HFit.out, HZ.out, HRL.out]
            simp [HW.out, more]
          have eO : O1 = none := by
            rw [HO.out, HFit.out]
            simp [HW.out]
          rw [eJ, eO]
          rw [upd_upd] at hX10
          have hM10 : Mod (fun b => b = B ∨ (Value.slice av zl.length cv).ownBlock = some b) w w10 := (hM9.drew).turned ht10 (.inl (.inl rfl))
          have hu10 := hu9.mod (((Mod.refl (fun b => b = B) w9).drew).turned ht10 (.inl rfl)) (fun b hb e => by subst e; exact hu9.ne_map hX3 hb)
          exact ⟨_, M + 1, Jn.inn h1 h2 h3 h4 h5 h6 h7 hv hE1 hM10 hu10 hrr hfa hX10, Nat.succ_le_succ hMN, fun b hb => by
            rcases hb with hb | hb
            · exact .inl hb
            · rcases hfa b hb with e | e
              · exact .inl (hE1 b e).1
              · exact .inr e, hM10.mono (fun b _ hb => by rcases hb with e | e; exact e ▸ h3; exact (hE1 b e).1), .inl ⟨rfl, rfl⟩⟩
end Go.Proofs.Ytifogbhlphofjaa
