/- Contract of a window's Above; rows of data. Conditions: as many data as a slice can have. -/
import Derived.Test.YtbmhgglnoofnjaaYf
namespace Go.Proofs.Ytbmhgglnoofnjaa
open Go.RowKit Go.Maps
/-- The cells of data, one behind the other. -/
def fd : List (Dt × Value) → List Value
  | [] => []
  | d :: r => dcl d.1 d.2 ++ fd r
theorem fd_len : ∀ ds, (fd ds).length = ds.length * 18
  | [] => rfl
  | d :: r => by rw [fd, List.length_append, fd_len r, dcl_len, List.length_cons]; omega
theorem fd_app : ∀ a b, fd (a ++ b) = fd a ++ fd b
  | [], _ => rfl
  | d :: r, b => by rw [List.cons_append, fd, fd, fd_app r b, List.append_assoc]
theorem dcl_lt {d : Dt} {v c : Value} {t : Nat} (h : (dcl d v)[t]? = some c) : t < 18 := by
  rcases Nat.lt_or_ge t 18 with h' | h'
  · exact h'
  · rw [List.getElem?_eq_none (by exact h')] at h; cases h
theorem fd_get : ∀ (ds : List (Dt × Value)) (i : Nat) (d : Dt × Value), ds[i]? = some d → ∀ t c, (dcl d.1 d.2)[t]? = some c → (fd ds)[i * 18 + t]? = some c
  | [], i, d, h => by simp at h
  | x :: r, 0, d, h => fun t c hc => by
    simp at h
    subst h
    rw [fd, List.getElem?_append_left (by have := dcl_lt hc; rw [dcl_len]; omega)]
    simpa using hc
  | x :: r, i + 1, d, h => fun t c hc => by
    rw [fd, List.getElem?_append_right (by rw [dcl_len]; omega), dcl_len, show (i + 1) * 18 + t - 18 = i * 18 + t by omega]
    exact fd_get r i d (by simpa using h) t c hc
theorem dcl_one (d : Dt) (ao : Option Addr) (n cap : Nat) : ∀ c ∈ dcl d (.slice ao n cap), c.oneCell' = true := fun c hc => by
  simp only [dcl, List.mem_cons, List.not_mem_nil, or_false] at hc
  rcases hc with rfl | rfl | rfl | rfl | rfl | rfl | rfl | rfl | rfl | rfl | rfl | rfl | rfl | rfl | rfl | rfl | rfl | rfl
  all_goals rfl
theorem infoDq : (Try.prog.info? 42).map (fun i => (i.zero, i.size, i.bytes)) = some (some (.agg #[.int .i64 0, .int .i64 0, .int .i64 0, .int .i64 0, .int .i64 0, .int .i64 0, .int .i64 0, .int .i64 0, .int .i64 0, .int .i64 0, .int .i64 0, .int .i64 0, .bool false, .int .i64 0, .int .i64 0, .int .i64 0, .int .i64 0, .slice none 0 0]), 18, 160) := by kernel_rfl
theorem elD : El 45 42 18 160 := ⟨Try.underlying45, by
  have h := infoDq
  cases hi : Try.prog.info? 42 with
  | none => rw [hi] at h; cases h
  | some i =>
    rw [hi] at h
    simp only [Option.map_some, Option.some.injEq, Prod.mk.injEq] at h
    exact ⟨i, _, rfl, h.1, h.2.1, h.2.2, rfl⟩⟩
/-- A row of data of the call's own, each with a body of the call's own, all new since b. -/
structure Rd18 (w : World) (b : Nat) (v : Value) (ds : List (Dt × Value)) : Prop where
  row : RG w 42 18 v ds.length (fd ds)
  new : ∀ g, v.ownBlock = some g → b ≤ g
  each : ∀ x ∈ ds, Own w x.2 x.1.m.body ∧ (∀ g, x.2.ownBlock = some g → b ≤ g) ∧ (∀ c ∈ x.1.m.body, 0 ≤ c ∧ c ≤ 255)
theorem Rd18.nil (w : World) (b : Nat) : Rd18 w b (.slice none 0 0) [] := ⟨RG.nil w _ _, by simp [Value.ownBlock], by simp⟩
theorem Rd18.mod {S : Nat → Prop} {w w' : World} {b : Nat} {v : Value} {ds : List (Dt × Value)} (h : Rd18 w b v ds) (hm : Mod S w w') (hS : ∀ g, b ≤ g → ¬ S g) : Rd18 w' b v ds :=
  ⟨h.row.mod hm (fun g hg => hS g (h.new g hg)), h.new, fun x hx => ⟨(h.each x hx).1.mod hm (fun g hg => hS g ((h.each x hx).2.1 g hg)), (h.each x hx).2⟩⟩
theorem Rd18.keep {w w' : World} {b : Nat} {v : Value} {ds : List (Dt × Value)} (h : Rd18 w b v ds) (hm : Mod (fun _ => False) w w') : Rd18 w' b v ds := h.mod hm (fun _ _ h => h)
theorem Rd18.base {w : World} {b b' : Nat} {v : Value} {ds : List (Dt × Value)} (h : Rd18 w b v ds) (hb : b' ≤ b) : Rd18 w b' v ds := ⟨h.row, fun g hg => Nat.le_trans hb (h.new g hg), fun x hx => ⟨(h.each x hx).1, fun g hg => Nat.le_trans hb ((h.each x hx).2.1 g hg), (h.each x hx).2.2⟩⟩
/-- One more. -/
theorem Rd18.more {w w' : World} {b : Nat} {v v' u : Value} {ds : List (Dt × Value)} {d : Dt} (h : Rd18 w b v ds) (hm : Mod (fun k => v.ownBlock = some k) w w') (hr : RG w' 42 18 v' (ds.length + 1) (fd ds ++ dcl d u)) (hf : Fr w v v') (hb : b ≤ w.heap.size) (ho : Own w u d.m.body) (hu : ∀ g, u.ownBlock = some g → b ≤ g) (hc : ∀ c ∈ d.m.body, 0 ≤ c ∧ c ≤ 255) : Rd18 w' b v' (ds ++ [(d, u)]) := by
  have ne : ∀ x l, Own w x l → ∀ g, x.ownBlock = some g → ¬ v.ownBlock = some g := fun x l hx g hg e => by
    obtain ⟨c1, k1⟩ := h.row.kind e
    obtain ⟨c2, k2⟩ := hx.kind hg
    rw [k1] at k2
    simp at k2
  refine ⟨?_, fun g hg => ?_, fun x hx => ?_⟩
  · rw [List.length_append, fd_app, show fd [(d, u)] = dcl d u by simp [fd]]
    exact hr
  · rcases hf g hg with h1 | h1
    · exact h.new g h1
    · omega
  · rcases List.mem_append.1 hx with hx | hx
    · obtain ⟨a1, a2, a3⟩ := h.each x hx
      exact ⟨a1.mod hm (ne _ _ a1), a2, a3⟩
    · simp at hx
      subst hx
      exact ⟨ho.mod hm (ne _ _ ho), hu, hc⟩
end Go.Proofs.Ytbmhgglnoofnjaa
