/- OrderWhole: what is delivered in all; of every list of ints, as the statement says it. No conditions. -/
import Derived.Test.YtbmhgglnoofnjaaOc
import Derived.Test.YtbmhgglnoofnjaaYn
import Derived.Deep.CutBlock
namespace Go.Proofs.Ytbmhgglnoofnjaa
open Go.RowKit Go.Maps
/-- What the law's book says of data. -/
def kv (d : Dt) : Int := if d.m.kind = 5 then 3 else if d.m.safe = true then 2 else 1
def kd (J : Int → Option Dt) (k : Int) : Int := match J k with | none => 0 | some d => kv d
def kcl (J : Int → Option Dt) : Array Value := ((List.range 52).map fun i : Nat => Value.int .i64 (kd J (i : Int))).toArray
theorem kcl_get (J : Int → Option Dt) (i : Nat) (h : i < 52) : (kcl J)[i]? = some (.int .i64 (kd J (i : Int))) := by simp [kcl, h]
theorem kcl_set (J : Int → Option Dt) (k : Nat) (d : Dt) (h : k < 52) : (kcl J).setIfInBounds k (.int .i64 (kv d)) = kcl (upd J (k : Int) (some d)) := by
  unfold kcl
  rw [List.setIfInBounds_toArray]
  congr 1
  apply List.ext_getElem?
  intro i
  rw [List.getElem?_set]
  by_cases e : k = i
  · subst e
    simp [h, kd, upd_same]
  · have e' : (i : Int) ≠ (k : Int) := by omega
    simp only [e, if_false, List.getElem?_map]
    by_cases hi : i < 52
    · simp [hi, kd, upd_other J _ e']
    · simp [hi]
/-- Data of the law's. -/
structure Jg (J : Int → Option Dt) : Prop where
  each : ∀ k d, J k = some d → 1 ≤ k ∧ k ≤ 50 ∧ (d.m.kind = 5 → d.m.safe = false) ∧ d.n = k
theorem Jg.put {J : Int → Option Dt} (h : Jg J) (d : Dt) (h1 : 1 ≤ d.n ∧ d.n ≤ 50) (h2 : d.m.kind = 5 → d.m.safe = false) : Jg (pZ J d) := ⟨fun k x hx => by
  unfold pZ at hx
  split at hx
  · exact h.each k x hx
  · by_cases e : k = d.n
    · subst e
      rw [upd_same] at hx
      cases hx
      exact ⟨h1.1, h1.2, h2, rfl⟩
    · rw [upd_other J _ e] at hx
      exact h.each k x hx⟩
theorem kd_rng (J : Int → Option Dt) (k : Int) : kd J k = 0 ∨ kd J k = 1 ∨ kd J k = 2 ∨ kd J k = 3 := by
  unfold kd
  split
  · exact .inl rfl
  · unfold kv
    split
    · simp
    · split <;> simp
theorem gon_kd {J : Int → Option Dt} (h : Jg J) (s k : Int) : gon J s k = (!(kd J k == 0) && (!(kd J k == 2) || decide (k ≤ s))) := by
  unfold gon kd
  cases hJ : J k with
  | none => rfl
  | some d =>
    obtain ⟨_, _, h3, _⟩ := h.each k d hJ
    unfold kv
    by_cases e : d.m.kind = 5
    · simp [e]
    · cases hs : d.m.safe with
      | true =>
        by_cases e2 : s < k
        · have : ¬ k ≤ s := by omega
          simp [e, e2, this, hs]
        · have : k ≤ s := by omega
          simp [e, e2, this, hs]
      | false => simp [e, hs]
theorem dl_pre (J : Int → Option Dt) (N : Int) (i : Nat) : ∀ t, i ≤ t → dl J N i <+: dl J N t
  | 0, h => by obtain rfl : i = 0 := by omega
               exact List.prefix_refl _
  | t + 1, h => by
    rcases Nat.lt_or_ge i (t + 1) with h1 | h1
    · exact (dl_pre J N i t (by omega)).trans (List.prefix_append _ _)
    · obtain rfl : i = t + 1 := by omega
      exact List.prefix_refl _
theorem dl_at {J : Int → Option Dt} {N : Int} {i t : Nat} {d : Dt} (h : i < t) (hJ : J (N + i + 1) = some d) (hk : d.m.kind ≠ 5) : (dl J N t)[(dl J N i).length]? = some d ∧ (dl J N (i + 1)).length = (dl J N i).length + 1 := by
  have e : dl J N (i + 1) = dl J N i ++ [d] := by rw [dl, dk, hJ]; simp [hk]
  obtain ⟨r, hr⟩ := dl_pre J N (i + 1) t h
  rw [← hr, e]
  constructor
  · simp
  · simp
theorem dl_skip {J : Int → Option Dt} {N : Int} {i : Nat} {d : Dt} (hJ : J (N + i + 1) = some d) (hk : d.m.kind = 5) : (dl J N (i + 1)).length = (dl J N i).length := by
  rw [dl, dk, hJ]
  simp [hk]
theorem kd_some {J : Int → Option Dt} {k : Int} (h : kd J k ≠ 0) : ∃ d, J k = some d ∧ kv d = kd J k := by
  unfold kd at h ⊢
  split at h
  · exact absurd rfl h
  · rename_i d e
    exact ⟨d, e, rfl⟩
theorem kv_kind {d : Dt} : (kv d = 3) ↔ d.m.kind = 5 := by
  unfold kv
  split
  · simp [*]
  · split <;> simp [*]
theorem Nx.at_end {J : Int → Option Dt} {s N : Int} {t i : Nat} (h : Nx J s N t) (hi : i ≤ t) (hg : gon J s (N + i + 1) = false) : i = t := by
  rcases Nat.lt_or_ge i t with h1 | h1
  · have := h.on i h1; rw [hg] at this; cases this
  · omega
theorem Nx.not_end {J : Int → Option Dt} {s N : Int} {t i : Nat} (h : Nx J s N t) (hi : i ≤ t) (hg : gon J s (N + i + 1) = true) : i < t := by
  rcases Nat.lt_or_ge i t with h1 | h1
  · exact h1
  · obtain rfl : i = t := by omega
    rw [h.off] at hg; cases hg
/-- A window, an order, and a book of what came; Y: what is apart besides. -/
structure Oe (w0 w : World) (Y : Nat → Prop) (p q bk : Nat) (J : Int → Option Dt) (a h N : Int) (n : Nat) : Prop where
  ow : Ow w0 w (fun i => i = bk ∨ Y i) p q J a h N n
  row : Bk w bk 56 (kcl J)
  good : Jg J
  h50 : h ≤ 50
  nb : w0.heap.size ≤ bk
theorem Oe.keep {w0 w w' : World} {Y : Nat → Prop} {p q bk : Nat} {J : Int → Option Dt} {a h N : Int} {n : Nat} (o : Oe w0 w Y p q bk J a h N n) (hm : Mod (fun _ => False) w w') : Oe w0 w' Y p q bk J a h N n := ⟨o.ow.keep hm, o.row.mod hm (fun h => h), o.good, o.h50, o.nb⟩
/-- A block more. -/
theorem Oe.more {w0 w w' : World} {p q bk : Nat} {J : Int → Option Dt} {a h N : Int} {n : Nat} (o : Oe w0 w (fun _ => False) p q bk J a h N n) (ob : Obj) (hm : Mod (fun i => i = w.heap.size) (w.alloc ob) w') : Oe w0 w' (fun i => i = w.heap.size) p q bk J a h N n := by
  have hA := (Mod.refl (fun _ => False) w).alloc ob
  have hF := hA.trans hm (V := fun _ => False) (fun _ _ h => h) (fun i hi h => by omega)
  obtain ⟨X, g1, g2, g3, g4⟩ := o.ow.ex
  refine ⟨⟨⟨X, g1.keep hF, g2, g3, fun i hi e => ?_⟩, o.ow.ord.keep hF, o.ow.nq, fun e => ?_, fun i hi => ?_, o.ow.far, o.ow.mod.and hF⟩, o.row.mod hF (fun h => h), o.good, o.h50, o.nb⟩
  · rcases e with e | e
    · exact g4 i hi (.inl e)
    · have := g1.mem.lt i hi; omega
  · rcases e with e | e
    · exact o.ow.zq (.inl e)
    · have := o.ow.ord.blk.lt; omega
  · have s1 := hm.size
    have s2 : (w.alloc ob).heap.size = w.heap.size + 1 := by simp
    rcases hi with e | e
    · have := o.row.lt; omega
    · omega
theorem Oe.less {w0 w : World} {Y : Nat → Prop} {p q bk : Nat} {J : Int → Option Dt} {a h N : Int} {n : Nat} (o : Oe w0 w Y p q bk J a h N n) : Oe w0 w (fun _ => False) p q bk J a h N n := ⟨o.ow.less (fun _ h => h.elim .inl (fun h => h.elim)), o.row, o.good, o.h50, o.nb⟩
/-- The block that is apart is turned. -/
theorem Oe.other {w0 w w' : World} {blk p q bk : Nat} {J : Int → Option Dt} {a h N : Int} {n : Nat} (o : Oe w0 w (fun i => i = blk) p q bk J a h N n) (hb : w0.heap.size ≤ blk) (hne : bk ≠ blk) (hm : Mod (fun i => i = blk) w w') : Oe w0 w' (fun i => i = blk) p q bk J a h N n :=
  ⟨o.ow.apart (fun _ hi => hi.elim (fun e => e ▸ o.nb) (fun e => e ▸ hb)) (hm.mono fun _ _ e => .inr e), o.row.mod hm hne, o.good, o.h50, o.nb⟩
/-- Data in a block, to be put. -/
structure Dz (w0 w : World) (p q bk blk : Nat) (J : Int → Option Dt) (a h N : Int) (n : Nat) (k : Int) : Prop where
  ex : ∃ d : Dt, d.m.body = [] ∧ okP d = true ∧ d.n = k ∧ (d.m.kind = 5 → d.m.safe = false) ∧ Bk w blk 42 (dcl d (.slice none 0 0)).toArray ∧ Oe w0 w (fun i => i = blk) p q bk J a h N n
/-- Behind Put, ahead of the book. -/
structure Op (w0 w : World) (Y : Nat → Prop) (p q bk : Nat) (J : Int → Option Dt) (d : Dt) (a h N : Int) (n : Nat) : Prop where
  ow : Ow w0 w (fun i => i = bk ∨ Y i) p q (pZ J d) a h N n
  row : Bk w bk 56 (kcl J)
  good : Jg (pZ J d)
  h50 : h ≤ 50
  nb : w0.heap.size ≤ bk
theorem Oe.put {w0 w : World} {Y : Nat → Prop} {p q bk : Nat} {J : Int → Option Dt} {a h N : Int} {n : Nat} (o : Oe w0 w Y p q bk J a h N n) (d : Dt) (hb : d.m.body = []) (ho : okP d = true) (h1 : 1 ≤ d.n ∧ d.n ≤ 50) (h2 : d.m.kind = 5 → d.m.safe = false) (hn : n < 1000000000000) :
    Calls Try.prog 11 #[.pointer (some ⟨p, 0, none⟩), dv d (.slice none 0 0)] w fun e w' => ∃ a', e = .returned (.tuple #[.bool !(J d.n).isSome, .int .i64 0]) ∧ Op w0 w' Y p q bk J d a' (max h d.n) N (n + 1) ∧ Mod (fun i => ¬ (i = bk ∨ Y i)) w w' := by
  refine (o.ow.put d hb ho hn).mono ?_
  rintro e w' ⟨a', rfl, g1, g2⟩
  exact ⟨a', rfl, ⟨g1, o.row.mod g2 (fun h => h (.inl rfl)), o.good.put d h1 h2, by have := o.h50; omega, o.nb⟩, g2⟩
/-- The book as well. -/
theorem Op.same {w0 w : World} {Y : Nat → Prop} {p q bk : Nat} {J : Int → Option Dt} {d : Dt} {a h N : Int} {n : Nat} (o : Op w0 w Y p q bk J d a h N n) (hJ : (J d.n).isSome = true) : Oe w0 w (fun _ => False) p q bk (pZ J d) a h N n := by
  have e : pZ J d = J := by unfold pZ; rw [if_pos hJ]
  refine Oe.less (Y := Y) ⟨o.ow, ?_, o.good, o.h50, o.nb⟩
  rw [e]
  exact o.row
theorem Op.book {w0 w w' : World} {Y : Nat → Prop} {p q bk k : Nat} {J : Int → Option Dt} {d : Dt} {a h N : Int} {n : Nat} (o : Op w0 w Y p q bk J d a h N n) (hJ : (J d.n).isSome = false) (hk : d.n = (k : Int)) (h50 : k ≤ 50) (hm : Mod (fun i => i = bk) w w') (hr : Bk w' bk 56 ((kcl J).setIfInBounds k (.int .i64 (kv d)))) : Oe w0 w' (fun _ => False) p q bk (pZ J d) a h N n := by
  have e : pZ J d = upd J (k : Int) (some d) := by unfold pZ; rw [if_neg (by simp [hJ]), hk]
  have h1 : Ow w0 w (fun i => i = bk) p q (pZ J d) a h N n := o.ow.less (fun i e => .inl e)
  refine ⟨(h1.apart (fun i e => e ▸ o.nb) hm).less (fun i h => h.elim (fun h => h) (fun h => h.elim)), ?_, o.good, o.h50, o.nb⟩
  rw [e, ← kcl_set J k d (by omega)]
  exact hr
theorem Oe.next {w0 w : World} {Y : Nat → Prop} {p q bk : Nat} {J : Int → Option Dt} {a h N : Int} {n : Nat} (o : Oe w0 w Y p q bk J a h N n) (s : Int) :
    Calls Try.prog 13 #[.pointer (some ⟨q, 0, none⟩), .pointer (some ⟨p, 0, none⟩), .int .i64 s] w fun e w' => ∃ v ds t, e = .returned (.tuple #[v, .int .i64 0]) ∧ Rd18 w' w.heap.size v ds ∧ ds.map (·.1) = dl J N t ∧ Nx J s N t ∧ Oe w0 w' Y p q bk J a h (N + t) n := by
  refine (o.ow.next (by have := o.h50; omega) s).mono ?_
  rintro e w' ⟨v, ds, t, rfl, g1, g2, g3, g4, g5⟩
  exact ⟨v, ds, t, rfl, g1, g2, g3, ⟨g4, o.row.mod g5 (fun e => o.ow.zq (.inl e.symm)), o.good, o.h50, o.nb⟩⟩
theorem and_nat (x : Int) (y : Nat) (hy : y < 2 ^ 63) : bits .and .i64 x y = (((x % 2 ^ 64).toNat &&& y : Nat) : Int) := by
  have e : ((BitVec.ofInt 64 x &&& BitVec.ofInt 64 (y : Int)).toNat) = (x % 2 ^ 64).toNat &&& y := by
    rw [BitVec.toNat_and, BitVec.toNat_ofInt, BitVec.toNat_ofInt]
    congr 1
    omega
  have hle : (x % 2 ^ 64).toNat &&& y ≤ y := Nat.and_le_right
  show IntKind.i64.wrap ((BitVec.ofInt 64 x &&& BitVec.ofInt 64 (y : Int)).toNat : Nat) = _
  rw [e, IntKind.wrap_i64]
  omega
theorem and_rng (x : Int) : 0 ≤ bits .and .i64 x 65535 ∧ bits .and .i64 x 65535 ≤ 65535 := by
  have e := and_nat x 65535 (by decide)
  have h2 : (x % 2 ^ 64).toNat &&& 65535 ≤ 65535 := Nat.and_le_right
  rw [show (65535 : Int) = ((65535 : Nat) : Int) from rfl, e]
  generalize (x % 2 ^ 64).toNat &&& 65535 = g at h2
  omega
set_option maxRecDepth 100000 in
set_option maxHeartbeats 40000000 in
theorem whole_walk (v0 : Value) (l : List Int) (w : World) (hl : Si w v0 l) : Calls Try.prog 4 #[v0] w fun e w' => e = .returned (.bool true) ∧ Mod (fun _ => False) w w' := by
  have HL : Hid (Si w v0 l) := hl
  obtain ⟨av, cv, rfl, hlc, hcm, hcn, hfm⟩ := hl.form
  clear hfm hcn hl
  go_enter Try.func4, Try.ntmps4
  go_wp2_with (fail)
  refine (awake_any w).mono ?_
  rintro e w1 ⟨rfl, hm1⟩
  go_wp2_with (fail)
  refine (Ow.new hm1).mono ?_
  rintro e w2 ⟨p, rfl, HN2⟩
  go_wp2_with (fail)
  refine HN2.mono ?_
  rintro e w3 ⟨q, rfl, o3⟩
  clear HN2 hm1
  have HB0 : Hid (Oe w (w3.alloc (.cells #[.int .i64 0, .int .i64 0, .int .i64 0, .int .i64 0, .int .i64 0, .int .i64 0, .int .i64 0, .int .i64 0, .int .i64 0, .int .i64 0, .int .i64 0, .int .i64 0, .int .i64 0, .int .i64 0, .int .i64 0, .int .i64 0, .int .i64 0, .int .i64 0, .int .i64 0, .int .i64 0, .int .i64 0, .int .i64 0, .int .i64 0, .int .i64 0, .int .i64 0, .int .i64 0, .int .i64 0, .int .i64 0, .int .i64 0, .int .i64 0, .int .i64 0, .int .i64 0, .int .i64 0, .int .i64 0, .int .i64 0, .int .i64 0, .int .i64 0, .int .i64 0, .int .i64 0, .int .i64 0, .int .i64 0, .int .i64 0, .int .i64 0, .int .i64 0, .int .i64 0, .int .i64 0, .int .i64 0, .int .i64 0, .int .i64 0, .int .i64 0, .int .i64 0, .int .i64 0] 56)) (fun _ => False) p q w3.heap.size (fun _ => none) 0 0 0 0) := by
    refine ⟨(o3.zone _).less (fun i h => h.elim (fun h => h) (fun h => h.elim)), ?_, ⟨by simp⟩, by decide, o3.mod.size⟩
    have e : (#[.int .i64 0, .int .i64 0, .int .i64 0, .int .i64 0, .int .i64 0, .int .i64 0, .int .i64 0, .int .i64 0, .int .i64 0, .int .i64 0, .int .i64 0, .int .i64 0, .int .i64 0, .int .i64 0, .int .i64 0, .int .i64 0, .int .i64 0, .int .i64 0, .int .i64 0, .int .i64 0, .int .i64 0, .int .i64 0, .int .i64 0, .int .i64 0, .int .i64 0, .int .i64 0, .int .i64 0, .int .i64 0, .int .i64 0, .int .i64 0, .int .i64 0, .int .i64 0, .int .i64 0, .int .i64 0, .int .i64 0, .int .i64 0, .int .i64 0, .int .i64 0, .int .i64 0, .int .i64 0, .int .i64 0, .int .i64 0, .int .i64 0, .int .i64 0, .int .i64 0, .int .i64 0, .int .i64 0, .int .i64 0, .int .i64 0, .int .i64 0, .int .i64 0, .int .i64 0] : Array Value) = kcl (fun _ => none) := rfl
    rw [e]
    exact Bk.new w3 _ _
  clear o3
  go_wp2_with (fail)
  have HC : Hid (∃ b off, l ≠ [] → av = some ⟨b, off, none⟩ ∧ ∀ wx, Mod (fun _ => False) w wx → ∀ i, i < l.length → wx.cell? ⟨b, off + i, none⟩ = some (.int .i64 (l.getD i 0))) := by
    obtain ⟨av', cv', e, _, _, _, hfm⟩ := HL.out.form
    cases e
    by_cases hne : l = []
    · exact ⟨0, 0, fun h => absurd hne h⟩
    · obtain ⟨b, off, rfl, hc⟩ := hfm hne
      exact ⟨b, off, fun _ => ⟨rfl, fun wx hm i hi => hm.cell (hc i hi) (fun h => h)⟩⟩
  have HI : Hid (∀ i, i < l.length → I64 (l.getD i 0)) := fun i hi => HL.out.rng _ (by rw [List.getD_eq_getElem?_getD, List.getElem?_eq_getElem hi]; exact List.getElem_mem hi)
  go_loopw [5, 7] (fun nx i wr => ∃ (j kk : Nat) (J : Int → Option Dt) (a h N : Int), nx = .int .i64 (kk : Int) ∧ Hid ((kk : Int) = N + 1) ∧ i = .int .i64 (j : Int) ∧ j ≤ l.length ∧ j ≤ 150 ∧ Oe w wr (fun _ => False) p q w3.heap.size J a h N j) (fun _ i _ => l.length - (intOf i).toNat)
  case atStart => exact ⟨0, 1, _, _, _, 0, rfl, (by show _ = _; omega), rfl, Nat.zero_le _, by decide, HB0.out⟩
  case round =>
    obtain ⟨j, kk, J, a, h, N, rfl, hkk, rfl, hj, hj150, hOe⟩ := hrel
    obtain ⟨bk, ebk⟩ : ∃ bk, bk = w3.heap.size := ⟨_, rfl⟩
    rw [← ebk] at hOe ⊢
    have HBK : Hid (bk = w3.heap.size) := ebk
    clear ebk HB0
    by_cases hjl : j < l.length
    · have hjl' : (j : Int) < (l.length : Int) := by omega
      by_cases hjc : j < 150
      · have hjc' : (j : Int) < 150 := by omega
        obtain ⟨b, off, hcs0⟩ := HC.out
        obtain ⟨rfl, hcs⟩ := hcs0 (by intro e; rw [e] at hjl; simp at hjl)
        have c1 := hcs wr hOe.ow.mod j hjl
        have hi := HI.out j hjl
        clear hcs hcs0
        generalize l.getD j 0 = x at c1 hi
        have hj0 : (0 : Int) ≤ (j : Int) := by omega
        obtain ⟨y, hy⟩ : ∃ y, bits .and .i64 x 65535 = y := ⟨_, rfl⟩
        have hyr : 0 ≤ y ∧ y ≤ 65535 := hy ▸ and_rng x
        obtain ⟨z, hz⟩ : ∃ z, y.tmod 50 = z := ⟨_, rfl⟩
        have hzr : 0 ≤ z ∧ z < 50 := by rw [← hz, Int.tmod_eq_emod_of_nonneg hyr.1]; omega
        obtain ⟨k, hkz⟩ : ∃ k : Nat, 1 + z = (k : Int) := ⟨(1 + z).toNat, by omega⟩
        obtain ⟨b1, hb1⟩ : ∃ b1, (bits .and .i64 (y / 64) 3 == 0) = b1 := ⟨_, rfl⟩
        obtain ⟨b2, hb2⟩ : ∃ b2, (bits .and .i64 (y / 256) 3 == 0) = b2 := ⟨_, rfl⟩
        obtain ⟨s, hs⟩ : ∃ s, y / 1024 = s := ⟨_, rfl⟩
        have hz0 := hzr.1
        have hz1 := hzr.2
        have HK : Hid (1 ≤ k ∧ k ≤ 50) := ⟨by omega, by omega⟩
        have HKI : Hid (1 ≤ (k : Int) ∧ (k : Int) ≤ 50) := ⟨by omega, by omega⟩
        have hk52 : (k : Int) < 52 := by omega
        have hk00 : (0 : Int) ≤ (k : Int) := by omega
        clear hzr hi
        have hy0 := hyr.1
        have hy1 := hyr.2
        clear hyr
        go_wp2_with (fail)
        refine (one_any (k : Int) b1 wr).mono ?_
        rintro e w4 ⟨rfl, hm4⟩
        have hO4 := hOe.keep hm4
        clear hOe hm4
        have hZ : Hid (Bk _ _ _ _) := Bk.new w4 #[.int .i64 0, .int .i64 0, .int .i64 0, .int .i64 0, .int .i64 0, .int .i64 0, .int .i64 0, .int .i64 0, .int .i64 0, .int .i64 0, .int .i64 0, .int .i64 0, .bool false, .int .i64 0, .int .i64 0, .int .i64 0, .int .i64 0, .slice none 0 0] 42
        have hA := (Mod.refl (fun _ => False) w4).alloc (.cells #[.int .i64 0, .int .i64 0, .int .i64 0, .int .i64 0, .int .i64 0, .int .i64 0, .int .i64 0, .int .i64 0, .int .i64 0, .int .i64 0, .int .i64 0, .int .i64 0, .bool false, .int .i64 0, .int .i64 0, .int .i64 0, .int .i64 0, .slice none 0 0] 42)
        unfold dv oz
        go_upto_region 12 with (refine wpList_store_row info18 rfl rfl _ _ rfl w4.heap.size #[.int .i64 1, .int .i64 1, .int .i64 (k : Int), .int .i64 1, .int .i64 0, .int .i64 1, .int .i64 1, .int .i64 1, .int .i64 0, .int .i64 0, .int .i64 1, .int .i64 1, .bool b1, .int .i64 0, .int .i64 0, .int .i64 0, .int .i64 0, .slice none 0 0] rfl rfl hZ.out rfl rfl rfl ?_; intro wF hBF hMF)
        have hOF := hO4.more _ hMF
        have HBF : Hid (Bk wF w4.heap.size 42 #[.int .i64 1, .int .i64 1, .int .i64 (k : Int), .int .i64 1, .int .i64 0, .int .i64 1, .int .i64 1, .int .i64 1, .int .i64 0, .int .i64 0, .int .i64 1, .int .i64 1, .bool b1, .int .i64 0, .int .i64 0, .int .i64 0, .int .i64 0, .slice none 0 0]) := hBF
        have HOF : Hid (Oe w wF (fun i => i = w4.heap.size) p q bk J a h N j) := hOF
        have HNB : Hid (w.heap.size ≤ w4.heap.size) := hO4.ow.mod.size
        have HSB : Hid (bk < w4.heap.size) := hO4.row.lt
        clear hO4 hZ hA hMF hOF hBF
        generalize w4.heap.size = blk at *
        go_upto_if 47 with (fail)
        go_cut [] (fun wx => Dz w wx p q bk blk J a h N j k)
        case first =>
          cases b2 with
          | false =>
            go_wp2_with (fail)
            go_meet
            exact ⟨⟨oz 1 k b1, rfl, okOz _ _ (by have := HKI.out; omega), rfl, by simp [oz], HBF.out, HOF.out⟩⟩
          | true =>
            go_wp2_with (fail)
            refine (old_any (k : Int) wF).mono ?_
            rintro e w5 ⟨rfl, hm5⟩
            have hB5 := HBF.out.mod hm5 (fun h => h)
            have HO5 : Hid (Oe w w5 (fun i => i = blk) p q bk J a h N j) := HOF.out.keep hm5
            unfold dv oz
            go_wp2_with (refine wpList_store_row info18 rfl rfl _ _ rfl blk #[.int .i64 1, .int .i64 1, .int .i64 (k : Int), .int .i64 1, .int .i64 0, .int .i64 5, .int .i64 1, .int .i64 1, .int .i64 0, .int .i64 0, .int .i64 1, .int .i64 1, .bool false, .int .i64 0, .int .i64 0, .int .i64 0, .int .i64 0, .slice none 0 0] rfl rfl hB5 rfl rfl rfl ?_; intro wG hBG hMG)
            go_meet
            exact ⟨⟨oz 5 k false, rfl, okOz _ _ (by have := HKI.out; omega), rfl, by simp [oz], hBG, HO5.out.other HNB.out (by have := HSB.out; omega) hMG⟩⟩
        case rest =>
        obtain ⟨⟨d, hdb, hdo, hdn, hds, hBd, hO5⟩⟩ := hcut
        generalize wc = w5 at *
        have HBd : Hid (Bk w5 blk 42 #[.int .i64 d.q, .int .i64 d.r, .int .i64 d.n, .int .i64 d.s, .int .i64 d.t, .int .i64 d.m.kind, .int .i64 d.m.origin, .int .i64 d.m.life, .int .i64 d.m.id, .int .i64 d.m.part, .int .i64 d.m.parts, .int .i64 d.m.groups, .bool d.m.safe, .int .i64 d.m.st, .int .i64 d.m.rs, .int .i64 d.m.rr, .int .i64 d.m.sq, .slice none 0 0]) := hBd
        have HO5 : Hid (Oe w w5 (fun i => i = blk) p q bk J a h N j) := hO5
        have HDB : Hid (d.m.body = [] ∧ okP d = true ∧ d.n = (k : Int) ∧ (d.m.kind = 5 → d.m.safe = false)) := ⟨hdb, hdo, hdn, hds⟩
        clear hdb hdo hdn hds hBd hO5 HBF HOF hb1 hb2 hz hz0 hz1 hkz
        go_wp2_with (refine wpList_load_row info18 Try.underlying42 rfl rfl _ rfl blk rfl HBd.out rfl ?_; simp only [Act.put, List.setIfInBounds_toArray, List.set_cons_succ, List.set_cons_zero])
        refine (HO5.out.put d HDB.out.1 HDB.out.2.1 (by rw [HDB.out.2.2.1]; exact HKI.out) HDB.out.2.2.2 (by omega)).mono ?_
        rintro e w6 ⟨a6, rfl, hP6, hm6⟩
        obtain ⟨fr, hfr⟩ : ∃ fr, (J d.n).isSome = fr := ⟨_, rfl⟩
        have HFR : Hid ((J d.n).isSome = fr) := hfr
        rw [hfr]
        clear hfr
        have HP6 : Hid (Op w w6 (fun i => i = blk) p q bk J d a6 (max h d.n) N (j + 1)) := hP6
        have HB6 : Hid (Bk w6 blk 42 #[.int .i64 d.q, .int .i64 d.r, .int .i64 d.n, .int .i64 d.s, .int .i64 d.t, .int .i64 d.m.kind, .int .i64 d.m.origin, .int .i64 d.m.life, .int .i64 d.m.id, .int .i64 d.m.part, .int .i64 d.m.parts, .int .i64 d.m.groups, .bool d.m.safe, .int .i64 d.m.st, .int .i64 d.m.rs, .int .i64 d.m.rr, .int .i64 d.m.sq, .slice none 0 0]) := HBd.out.mod hm6 (fun h => h (.inr rfl))
        clear hP6 hm6 HBd HO5
        go_upto_if 58 with (fail)
        go_cut [] (fun wx => Oe w wx (fun _ => False) p q bk (pZ J d) a6 (max h d.n) N (j + 1))
        case first =>
          cases fr with
          | true =>
            go_wp2_with (fail)
            go_meet
            exact HP6.out.same HFR.out
          | false =>
            have ck := HP6.out.row.cellv (kcl_get J k (by have := HK.out; omega))
            have fk := HP6.out.row.frz k
            have HB1 : Hid (Bk _ _ _ _) := HB6.out.other ⟨bk, k, none⟩ (.int .i64 1) (by have := HSB.out; simp; omega)
            have HR1 : Hid (Bk _ _ _ _) := HP6.out.row.set k (.int .i64 1)
            have c12 := HB1.out.cellv (j := 12) rfl
            have c5 := HB1.out.cellv (j := 5) rfl
            have HM1 : Hid (Mod (fun i => i = bk) w6 _) := (Mod.refl (fun i => i = bk) w6).setCell ⟨bk, k, none⟩ (.int .i64 1) (.inl rfl)
            have HKS : Hid (k < (kcl J).size) := by have := HK.out; simp [Hid, kcl]; omega
            have ck1 := HR1.out.cellv (j := k) (v := .int .i64 1) (by have := HKS.out; simp [this])
            have fk1 := HR1.out.frz k
            by_cases h5 : d.m.kind = 5
            · have hsf := HDB.out.2.2.2 h5
              have hkb : (d.m.kind == 5) = true := by simp [h5]
              have HV : Hid (kv d = 3) := kv_kind.2 h5
              rw [hsf] at c12
              clear h5 hsf
              go_wp2_with (fail)
              go_meet
              refine HP6.out.book HFR.out HDB.out.2.2.1 HK.out.2 (HM1.out.setCell ⟨bk, k, none⟩ (.int .i64 3) (.inl rfl)) ?_
              rw [HV.out]
              have := HR1.out.set k (.int .i64 3)
              rwa [Array.setIfInBounds_setIfInBounds] at this
            · have hkb : (d.m.kind == 5) = false := by simp [h5]
              rcases Bool.eq_false_or_eq_true d.m.safe with hsf | hsf
              · have HV : Hid (kv d = 2) := by simp [Hid, kv, h5, hsf]
                rw [hsf] at c12
                have HB2 : Hid (Bk _ _ _ _) := HB1.out.other ⟨bk, k, none⟩ (.int .i64 2) (by have := HSB.out; simp; omega)
                have c52 := HB2.out.cellv (j := 5) rfl
                clear h5 hsf
                go_wp2_with (fail)
                go_meet
                refine HP6.out.book HFR.out HDB.out.2.2.1 HK.out.2 (HM1.out.setCell ⟨bk, k, none⟩ (.int .i64 2) (.inl rfl)) ?_
                rw [HV.out]
                have := HR1.out.set k (.int .i64 2)
                rwa [Array.setIfInBounds_setIfInBounds] at this
              · have HV : Hid (kv d = 1) := by simp [Hid, kv, h5, hsf]
                rw [hsf] at c12
                clear h5 hsf
                go_wp2_with (fail)
                go_meet
                refine HP6.out.book HFR.out HDB.out.2.2.1 HK.out.2 HM1.out ?_
                rw [HV.out]
                exact HR1.out
        case rest =>
        have HO7 : Hid (Oe w wc (fun _ => False) p q bk (pZ J d) a6 (max h d.n) N (j + 1)) := hcut
        clear hcut HP6 HB6 HDB HFR
        generalize wc = w7 at *
        generalize pZ J d = J2 at HO7
        generalize max h d.n = h2 at HO7
        go_wp2_with (fail)
        refine (HO7.out.next s).mono ?_
        rintro e w8 ⟨v8, ds, t, rfl, hR8, hm8, hnx, hO8⟩
        obtain ⟨av8, cv8, rfl⟩ := hR8.row.shape
        have HR8 : Hid (Rd18 w8 _ _ _) := hR8
        have HMP : Hid (ds.map (·.1) = dl J2 N t) := hm8
        have HNX : Hid (Nx J2 s N t) := hnx
        have HO8 : Hid (Oe w w8 (fun _ => False) p q bk J2 a6 h2 (N + t) (j + 1)) := hO8
        have HTB : Hid (0 ≤ N ∧ N + t ≤ 50) := by
          obtain ⟨X, hW, _⟩ := hO8.ow.ex
          have h1 := hW.wp.a_le
          have h2 := hO8.h50
          have h3 := hO8.ow.far
          have h4 := HO7.out.ow.far
          exact ⟨h4.1, by omega⟩
        obtain ⟨kn, hkn⟩ : ∃ kn : Nat, N + (t : Int) + 1 = (kn : Int) := ⟨(N + (t : Int) + 1).toNat, by have := HTB.out; omega⟩
        have HKN : Hid (N + (t : Int) + 1 = (kn : Int)) := hkn
        clear hR8 hm8 hnx hO8 hkn HO7
        go_upto_block 2 with (fail)
        go_cut [5, 15] (fun nx at_ wx => nx = .int .i64 (kn : Int) ∧ at_ = .int .i64 (ds.length : Int) ∧ wx = w8)
        case first =>
          go_wp2_with (fail)
          go_loop [5, 15] (fun nx at_ => ∃ (i k2 g : Nat), nx = .int .i64 (k2 : Int) ∧ at_ = .int .i64 (g : Int) ∧ i ≤ t ∧ Hid ((k2 : Int) = N + i + 1) ∧ Hid (g = (dl J2 N i).length)) (fun nx _ => 100 - (intOf nx).toNat)
          case atStart => exact ⟨0, kk, 0, rfl, rfl, Nat.zero_le _, by have := hkk.out; show _ = _; omega, rfl⟩
          case round =>
            obtain ⟨i, k2, g, rfl, rfl, hit, hk2, hg⟩ := hrel
            have hk20 : (0 : Int) ≤ (k2 : Int) := by omega
            by_cases hle : k2 ≤ 50
            · have hle' : (k2 : Int) ≤ 50 := by omega
              have hl52 : (k2 : Int) < 52 := by omega
              have HLE : Hid (k2 ≤ 50) := hle
              have ck := HO8.out.row.cellv (kcl_get J2 k2 (by omega))
              have hgo := gon_kd HO8.out.good s (k2 : Int)
              clear hle
              rcases kd_rng J2 (k2 : Int) with e | e | e | e
              · rw [e] at ck hgo
                simp only [beq_self_eq_true, Bool.not_true, Bool.false_and] at hgo
                clear e
                have HE : Hid (i = t) := HNX.out.at_end hit (by rw [← hk2.out]; exact hgo)
                clear hgo
                go_wp2_with (fail)
                go_meet
                have e1 := HE.out
                subst e1
                obtain rfl : k2 = kn := by have h1 := hk2.out; have h2 := HKN.out; omega
                obtain rfl : g = ds.length := by
                  have h1 := hg.out
                  have h2 := congrArg List.length HMP.out
                  simp at h2
                  omega
                exact ⟨rfl, rfl, rfl⟩
              · rw [e] at ck hgo
                rw [show (!((1 : Int) == 0) && (!((1 : Int) == 2) || decide ((k2 : Int) ≤ s))) = true from by simp] at hgo
                have HIT : Hid (i < t) := HNX.out.not_end hit (by rw [← hk2.out]; exact hgo)
                obtain ⟨d2, hd2, hv⟩ := kd_some (J := J2) (k := (k2 : Int)) (by rw [e]; decide)
                rw [e] at hv
                have hkind : d2.m.kind ≠ 5 := fun h5 => by rw [kv_kind.2 h5] at hv; cases hv
                obtain ⟨hat, hl2⟩ := dl_at (N := N) HIT.out (by rw [← hk2.out]; exact hd2) hkind
                rw [← hg.out] at hat hl2
                rw [← HMP.out, List.getElem?_map] at hat
                obtain ⟨x2, hx2, ex2⟩ : ∃ x2, ds[g]? = some x2 ∧ x2.1 = d2 := by
                  cases hq : ds[g]? with
                  | none => rw [hq] at hat; cases hat
                  | some x2 => rw [hq] at hat; exact ⟨x2, rfl, by simpa using hat⟩
                have hgl : g < ds.length := by
                  rcases Nat.lt_or_ge g ds.length with h1 | h1
                  · exact h1
                  · rw [List.getElem?_eq_none h1] at hx2; cases hx2
                have hgl' : (g : Int) < (ds.length : Int) := by omega
                have hgl2 : ¬ (ds.length : Int) ≤ (g : Int) := by omega
                obtain ⟨gb, of, cp, ev, hrg⟩ := HR8.out.row.range (by omega)
                have c2 : w8.cell? ⟨gb, of + g * 18 + 2, none⟩ = some (.int .i64 (k2 : Int)) := by
                  have := hrg (g * 18 + 2) _ (fd_get ds g x2 hx2 2 (.int .i64 x2.1.n) rfl)
                  rw [← Nat.add_assoc, ex2, (HO8.out.good.each _ d2 hd2).2.2.2] at this
                  exact this
                have HG2 : Hid (g + 1 = (dl J2 N (i + 1)).length) := hl2.symm
                have hg00 : (0 : Int) ≤ (g : Int) := by omega
                have hgb : (g : Int) ≤ 1000 := by
                  have h1 := dl_len J2 N t
                  have h2 := congrArg List.length HMP.out
                  simp at h2
                  have := HTB.out
                  omega
                have hne2 : ((k2 : Int) != (k2 : Int)) = false := by simp
                clear hgo hv hkind hat hl2 hx2 ex2 hgl hrg hd2 e
                cases ev
                go_wp2_with (fail)
                go_roundw
                case rel => exact ⟨i + 1, k2 + 1, g + 1, by go_num, by go_num, HIT.out, by have := hk2.out; show _ = _; omega, HG2⟩
                case measure =>
                  have := HLE.out
                  simp [intOf]
                  omega
              · rw [e] at ck hgo
                by_cases hks : (k2 : Int) ≤ s
                · rw [show (!((2 : Int) == 0) && (!((2 : Int) == 2) || decide ((k2 : Int) ≤ s))) = true from by simp [hks]] at hgo
                  have HIT : Hid (i < t) := HNX.out.not_end hit (by rw [← hk2.out]; exact hgo)
                  obtain ⟨d2, hd2, hv⟩ := kd_some (J := J2) (k := (k2 : Int)) (by rw [e]; decide)
                  rw [e] at hv
                  have hkind : d2.m.kind ≠ 5 := fun h5 => by rw [kv_kind.2 h5] at hv; cases hv
                  obtain ⟨hat, hl2⟩ := dl_at (N := N) HIT.out (by rw [← hk2.out]; exact hd2) hkind
                  rw [← hg.out] at hat hl2
                  rw [← HMP.out, List.getElem?_map] at hat
                  obtain ⟨x2, hx2, ex2⟩ : ∃ x2, ds[g]? = some x2 ∧ x2.1 = d2 := by
                    cases hq : ds[g]? with
                    | none => rw [hq] at hat; cases hat
                    | some x2 => rw [hq] at hat; exact ⟨x2, rfl, by simpa using hat⟩
                  have hgl : g < ds.length := by
                    rcases Nat.lt_or_ge g ds.length with h1 | h1
                    · exact h1
                    · rw [List.getElem?_eq_none h1] at hx2; cases hx2
                  have hgl' : (g : Int) < (ds.length : Int) := by omega
                  have hgl2 : ¬ (ds.length : Int) ≤ (g : Int) := by omega
                  obtain ⟨gb, of, cp, ev, hrg⟩ := HR8.out.row.range (by omega)
                  have c2 : w8.cell? ⟨gb, of + g * 18 + 2, none⟩ = some (.int .i64 (k2 : Int)) := by
                    have := hrg (g * 18 + 2) _ (fd_get ds g x2 hx2 2 (.int .i64 x2.1.n) rfl)
                    rw [← Nat.add_assoc, ex2, (HO8.out.good.each _ d2 hd2).2.2.2] at this
                    exact this
                  have HG2 : Hid (g + 1 = (dl J2 N (i + 1)).length) := hl2.symm
                  have hg00 : (0 : Int) ≤ (g : Int) := by omega
                  have hgb : (g : Int) ≤ 1000 := by
                    have h1 := dl_len J2 N t
                    have h2 := congrArg List.length HMP.out
                    simp at h2
                    have := HTB.out
                    omega
                  have hne2 : ((k2 : Int) != (k2 : Int)) = false := by simp
                  clear hgo hv hkind hat hl2 hx2 ex2 hgl hrg hd2 e
                  cases ev
                  go_wp2_with (fail)
                  go_roundw
                  case rel => exact ⟨i + 1, k2 + 1, g + 1, by go_num, by go_num, HIT.out, by have := hk2.out; show _ = _; omega, HG2⟩
                  case measure =>
                    have := HLE.out
                    simp [intOf]
                    omega
                · rw [show (!((2 : Int) == 0) && (!((2 : Int) == 2) || decide ((k2 : Int) ≤ s))) = false from by simp [hks]] at hgo
                  clear e
                  have HE : Hid (i = t) := HNX.out.at_end hit (by rw [← hk2.out]; exact hgo)
                  clear hgo
                  go_wp2_with (fail)
                  go_meet
                  have e1 := HE.out
                  subst e1
                  obtain rfl : k2 = kn := by have h1 := hk2.out; have h2 := HKN.out; omega
                  obtain rfl : g = ds.length := by
                    have h1 := hg.out
                    have h2 := congrArg List.length HMP.out
                    simp at h2
                    omega
                  exact ⟨rfl, rfl, rfl⟩
              · rw [e] at ck hgo
                rw [show (!((3 : Int) == 0) && (!((3 : Int) == 2) || decide ((k2 : Int) ≤ s))) = true from by simp] at hgo
                have HIT : Hid (i < t) := HNX.out.not_end hit (by rw [← hk2.out]; exact hgo)
                have HG2 : Hid (g = (dl J2 N (i + 1)).length) := by
                  obtain ⟨d2, hd2, hv⟩ := kd_some (J := J2) (k := (k2 : Int)) (by rw [e]; decide)
                  rw [e] at hv
                  have := dl_skip (N := N) (i := i) (J := J2) (d := d2) (by rw [← hk2.out]; exact hd2) (kv_kind.1 hv)
                  show _ = _
                  rw [this]
                  exact hg.out
                clear hgo e
                go_wp2_with (fail)
                go_roundw
                case rel => exact ⟨i + 1, k2 + 1, g, by go_num, rfl, HIT.out, by have := hk2.out; show _ = _; omega, HG2⟩
                case measure =>
                  have := HLE.out
                  simp [intOf]
                  omega
            · have hle' : ¬ (k2 : Int) ≤ 50 := by omega
              have hgo : gon J2 s (k2 : Int) = false := by
                cases hJ : J2 (k2 : Int) with
                | none => simp [gon, hJ]
                | some d2 => have := (HO8.out.good.each _ d2 hJ).2.1; omega
              clear hle
              have HE : Hid (i = t) := HNX.out.at_end hit (by rw [← hk2.out]; exact hgo)
              clear hgo
              go_wp2_with (fail)
              go_meet
              have e1 := HE.out
              subst e1
              obtain rfl : k2 = kn := by have h1 := hk2.out; have h2 := HKN.out; omega
              obtain rfl : g = ds.length := by
                have h1 := hg.out
                have h2 := congrArg List.length HMP.out
                simp at h2
                omega
              exact ⟨rfl, rfl, rfl⟩
        case rest =>
        obtain ⟨rfl, rfl, rfl⟩ := hcut
        have HDN := Done_w HO8.out.ow.ord
        have hnl : ((ds.length : Int) != (ds.length : Int)) = false := by simp
        have hnd : ((N + (t : Int)) != ((kn : Int) - 1)) = false := by
          have := HKN.out
          simp only [bne_eq_false_iff_eq]
          omega
        have hkn0 : (0 : Int) ≤ (kn : Int) := by omega
        have hknb : (kn : Int) ≤ 51 := by have := HKN.out; have := HTB.out; omega
        go_wp2_with (go_at_call 15; refine HDN.mono ?_; rintro e w9 ⟨rfl, rfl⟩)
        go_roundw
        case rel => exact ⟨j + 1, kn, J2, a6, h2, N + (t : Int), rfl, HKN.out.symm, by go_num, hjl, by omega, HO8.out⟩
        case measure => simp [intOf]; omega
      · have hjc' : ¬ (j : Int) < 150 := by omega
        have HM : Hid (Mod (fun _ => False) w wr) := hOe.ow.mod
        clear hOe
        go_wp2_with (fail)
        go_ret
        exact ⟨rfl, HM.out⟩
    · have hjl' : ¬ (j : Int) < (l.length : Int) := by omega
      have HM : Hid (Mod (fun _ => False) w wr) := hOe.ow.mod
      clear hOe
      go_wp2_with (fail)
      go_ret
      exact ⟨rfl, HM.out⟩
namespace orderWhole
open Go.ChangeShapes Go.WideShapes Go.ChangeAt Go.RowKit
set_option maxRecDepth 100000 in
theorem lifted (os : Os) (started : os.Started) (H : Type) (enc : TypeId × Value → H) :
    ReturnsInHanded {} Try.checked os 4 .any (Rows.orderWholeSpec.pre6 enc Try.prog Try.f4 Rows.orderWholeRow.domain false) (Rows.orderWholeSpec.post enc Try.prog Try.f4 false true false false) := by
  refine returnsInHanded_of_change_sized (C := Try.checked) own started (by kernel_rfl) Try.func4
    (ChangeSpec.witness6 (enc := enc) (C := Try.checked) false ⟨#[], #[.slice none 0 0], []⟩ 8 (by kernel_rfl) (by kernel_rfl) (by kernel_rfl) (by kernel_rfl)) ?_
  intro W base args ds gs before hval0 hW hcnd hsz0 _
  have hval : ∀ (j : Nat) t v, Try.f4.params[j]? = some t → args[j]? = some v → Value.okWide Try.prog W .any base t v := hval0
  have hsz : (DataW.weightsEach Try.prog (Try.f4.params.toList ++ Rows.orderWholeSpec.plain.varTypes Try.prog) (ds ++ gs)).all (· ≤ reachBytes) = true := hsz0
  have hW' := hW
  obtain ⟨p, q, hA0, hV, rfl, hfz, hnd⟩ := hW
  have hA : DataW.TrodAll enc Try.prog W 0 (fun _ => true) true Try.f4.params.toList args.toList ds p := hA0
  rw [Try.params4] at hA hval hsz
  obtain ⟨v0, vs0, d0, ds0, p0, q0, hargs, rfl, rfl, h0, r0⟩ := trodAll_cons hA
  obtain ⟨rfl, rfl, rfl⟩ := trodAll_nil r0
  obtain rfl : args = #[v0] := by cases args; simp_all
  obtain ⟨rfl, rfl⟩ := trodVars_none hV
  have k0 := h0
  have lt0 : ∀ x ∈ p0, x.block < W.heap.size := by obtain ⟨m, hm⟩ := k0; exact DataW.trod_lt m _ _ _ hm
  obtain ⟨B0, hB0⟩ := open_l h0 (okWide_slice Try.underlying55 (hval 0 55 v0 rfl rfl))
  clear hA0 hval0
  refine (whole_walk v0 B0 W hB0).mono fun e W' ⟨he, hm⟩ => ?_
  subst he
  have bel : Below W.heap.size W W' := hm.below _ (Nat.le_refl _) (fun _ h => h.elim)
  exact ⟨_, rfl, _, _, _, [], _, [], hW', trodAll_mk1 (shut_bool Try.underlying4 _), (trodAll_cons_mk (Below.trod laidOut (by kernel_rfl) (of_decide_eq_true (by kernel_rfl)) k0 bel lt0) trodAll_mk0), rfl, bel.frame _, fun h => by cases h⟩

theorem over : Rows.orderWholeRow.holds Try.pinned (OpenSpec.ofChange Rows.orderWholeSpec) :=
  OpenClaim.holds_of_wide 4 Try.f4 rfl rfl rfl rfl rfl rfl rfl ⟨rfl, rfl, rfl, rfl, rfl⟩ rfl rfl rfl rfl rfl (by kernel_rfl) Try.func4 (by kernel_rfl)
    (of_decide_eq_true (by kernel_rfl)) (by unfold Func.isWrapper; first | (rw [if_pos (by decide +kernel)]; kernel_rfl) | (rw [if_neg (by decide +kernel)]; exact ⟨rfl, rfl⟩))
    (fun os started H enc _ => lifted os started H enc)
end orderWhole
theorem orderWhole_holds : Rows.OrderWholeSaid := orderWhole.over
end Go.Proofs.Ytbmhgglnoofnjaa
