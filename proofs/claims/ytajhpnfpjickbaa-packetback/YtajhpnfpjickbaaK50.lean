/- Plain, and of memory: what was read is a packet in cells, kind by kind. No conditions. -/
import Derived.Test.YtajhpnfpjickbaaK49
namespace Go.Proofs.Ytajhpnfpjickbaa
open Go.RowKit
theorem arr40 {xs ys : Array Value} (h1 : xs.size = 40) (h2 : ys.size = 40) (h : ∀ k, k < 40 → xs[k]? = ys[k]?) : xs = ys := by
  apply Array.ext_getElem?
  intro k
  by_cases hk : k < 40
  · exact h k hk
  · rw [Array.getElem?_eq_none (by omega), Array.getElem?_eq_none (by omega)]
theorem kE1 (l : List Int) : Go.Proofs.Ytajhpnfpjickbaa.kE 1 l = dE l := rfl
theorem kE2 (l : List Int) : Go.Proofs.Ytajhpnfpjickbaa.kE 2 l = tE l := by
  unfold Go.Proofs.Ytajhpnfpjickbaa.kE tE lE
  rw [if_neg (by decide), if_pos rfl, Nat.mul_one]
theorem kE3 (l : List Int) : Go.Proofs.Ytajhpnfpjickbaa.kE 3 l = rde 3 l := rfl
theorem kE4 (l : List Int) : Go.Proofs.Ytajhpnfpjickbaa.kE 4 l = cE l := rfl
theorem kE5 (l : List Int) : Go.Proofs.Ytajhpnfpjickbaa.kE 5 l = rde 3 l := rfl
theorem Sl.nil (w : World) : Sl w (.slice none 0 0) [] := (Own.nil w).sl (by simp)
theorem CrSl.nil (w : World) : Cr.Sl w (.slice none 0 0) [] := (Cr.Own.nil w).sl
theorem SlE.nil (w : World) : SlE w (.slice none 0 0) [] := ⟨none, 0, rfl, Nat.le_refl _, by simp [maxLen], fun _ => rfl, fun h => absurd rfl h⟩
theorem ents_get : ∀ (n : Nat) (l : List Int) (j : Nat) (e : Ey), (ents n l)[j]? = some e → e = ⟨l.getD (j * 6) 0, l.getD (j * 6 + 1) 0, l.getD (j * 6 + 2) 0, l.getD (j * 6 + 3) 0, l.getD (j * 6 + 4) 0, l.getD (j * 6 + 5) 0⟩ ∧ j < n
  | 0, _, _, _, h => by simp [ents] at h
  | n + 1, l, 0, e, h => by
    simp only [ents, List.getElem?_cons_zero, Option.some.injEq] at h
    exact ⟨h ▸ rfl, by omega⟩
  | n + 1, l, j + 1, e, h => by
    simp only [ents, List.getElem?_cons_succ] at h
    obtain ⟨h1, h2⟩ := ents_get n (l.drop 6) j e h
    refine ⟨?_, by omega⟩
    rw [h1]
    have t : ∀ i, (l.drop 6).getD i 0 = l.getD (6 + i) 0 := fun i => by simp [List.getD_eq_getElem?_getD]
    simp only [t]
    rw [show 6 + j * 6 = (j + 1) * 6 by omega, show 6 + (j * 6 + 1) = (j + 1) * 6 + 1 by omega, show 6 + (j * 6 + 2) = (j + 1) * 6 + 2 by omega, show 6 + (j * 6 + 3) = (j + 1) * 6 + 3 by omega, show 6 + (j * 6 + 4) = (j + 1) * 6 + 4 by omega, show 6 + (j * 6 + 5) = (j + 1) * 6 + 5 by omega]
/-- A row of ints that was read is a slice. -/
theorem rowI {w : World} {B N : Nat} {ys : Array Value} {L : List Int} (hB : Bk w B 3 ys) (hN : N ≤ 16) (hL : L.length = N) (hy : ∀ k, k < N → ys[k]? = some (.int .i64 (L.getD k 0))) : Cr.Sl w (.slice (some ⟨B, 0, none⟩) L.length N) L :=
  ⟨_, N, rfl, by omega, by unfold maxLen; omega, fun h => (by cases h), fun _ => ⟨B, 0, rfl, fun j hj => by rw [Nat.zero_add, hB.cell, hy j (by omega)]⟩⟩
/-- A row of entries that was read is a slice of them. -/
theorem rowE {w : World} {B N : Nat} {t : TypeId} {ys : Array Value} {L : List Int} (hB : Bk w B t ys) (hN : N ≤ 8) (hy : ∀ k, k < N * 6 → ys[k]? = some (.int .i64 (L.getD k 0))) : SlE w (.slice (some ⟨B, 0, none⟩) (ents N L).length N) (ents N L) := by
  refine ⟨_, N, rfl, by rw [ents_len]; omega, by unfold maxLen; omega, fun h => (by cases h), fun _ => ⟨B, 0, rfl, fun j e he => ?_⟩⟩
  obtain ⟨rfl, hj⟩ := ents_get N L j e he
  simp only [Nat.zero_add, hB.cell]
  exact ⟨hy _ (by omega), hy _ (by omega), hy _ (by omega), hy _ (by omega), hy _ (by omega), hy _ (by omega)⟩
set_option maxRecDepth 10000 in
theorem pkin1 {w' : World} {m : Nat} {N1 : Int} {l2 : List Int} {xs' : Array Value} (hs : xs'.size = 40) (ho : ∀ k, (k < 2 ∨ 2 + 18 ≤ k) → xs'[k]? = ((pz.setIfInBounds 0 (.int .i64 1)).setIfInBounds 1 (.int .i64 N1))[k]?) (hi : ∀ k, k < 5 → xs'[2 + k]? = some (.int .i64 ((rdv 5 l2).getD k 0))) {k o lf i p ps g : Int} {s : Bool} {st rs rr sq : Int} {bv : Value}
    (hm : ∀ j, j < 13 → xs'[2 + 5 + j]? = ([.int .i64 k, .int .i64 o, .int .i64 lf, .int .i64 i, .int .i64 p, .int .i64 ps, .int .i64 g, .bool s, .int .i64 st, .int .i64 rs, .int .i64 rr, .int .i64 sq, bv] : List Value)[j]?) (he : Ms.mk k o lf i p ps g s st rs rr sq (prM (obody (rdr 5 l2))).body = prM (obody (rdr 5 l2))) (hw : Own w' bv (prM (obody (rdr 5 l2))).body) (hf : ∀ g, bv.ownBlock = some g → m ≤ g) (hr : ∀ c ∈ (prM (obody (rdr 5 l2))).body, 0 ≤ c ∧ c ≤ 255) : PkIn w' m xs' (kP 1 N1 l2) := by
  have e : kP 1 N1 l2 = ⟨1, N1, ⟨(rdv 5 l2).getD 0 0, (rdv 5 l2).getD 1 0, (rdv 5 l2).getD 2 0, (rdv 5 l2).getD 3 0, (rdv 5 l2).getD 4 0, prM (obody (rdr 5 l2))⟩, Tk.zero, Jn.zero, Cm.zero, Bn.zero⟩ := rfl
  rw [e]
  clear e
  obtain ⟨ao, cap, rfl⟩ := hw.shape
  generalize prM (obody (rdr 5 l2)) = M at *
  obtain ⟨k', o', lf', i', p', ps', g', s', st', rs', rr', sq', body⟩ := M
  simp only [Ms.mk.injEq] at he
  obtain ⟨rfl, rfl, rfl, rfl, rfl, rfl, rfl, rfl, rfl, rfl, rfl, rfl, _⟩ := he
  refine ⟨ao, cap, none, 0, none, 0, arr40 hs rfl (fun k hk => ?_), hw.sl hr, CrSl.nil _, SlE.nil _, fun _ g hg => hf g hg, fun h => absurd rfl h, fun h => absurd rfl h⟩
  match k, hk with
    | 0, _ => exact (ho 0 (by omega)).trans rfl
    | 1, _ => exact (ho 1 (by omega)).trans rfl
    | 2, _ => exact (hi 0 (by omega)).trans rfl
    | 3, _ => exact (hi 1 (by omega)).trans rfl
    | 4, _ => exact (hi 2 (by omega)).trans rfl
    | 5, _ => exact (hi 3 (by omega)).trans rfl
    | 6, _ => exact (hi 4 (by omega)).trans rfl
    | 7, _ => exact (hm 0 (by omega)).trans rfl
    | 8, _ => exact (hm 1 (by omega)).trans rfl
    | 9, _ => exact (hm 2 (by omega)).trans rfl
    | 10, _ => exact (hm 3 (by omega)).trans rfl
    | 11, _ => exact (hm 4 (by omega)).trans rfl
    | 12, _ => exact (hm 5 (by omega)).trans rfl
    | 13, _ => exact (hm 6 (by omega)).trans rfl
    | 14, _ => exact (hm 7 (by omega)).trans rfl
    | 15, _ => exact (hm 8 (by omega)).trans rfl
    | 16, _ => exact (hm 9 (by omega)).trans rfl
    | 17, _ => exact (hm 10 (by omega)).trans rfl
    | 18, _ => exact (hm 11 (by omega)).trans rfl
    | 19, _ => exact (hm 12 (by omega)).trans rfl
    | 20, _ => exact (ho 20 (by omega)).trans rfl
    | 21, _ => exact (ho 21 (by omega)).trans rfl
    | 22, _ => exact (ho 22 (by omega)).trans rfl
    | 23, _ => exact (ho 23 (by omega)).trans rfl
    | 24, _ => exact (ho 24 (by omega)).trans rfl
    | 25, _ => exact (ho 25 (by omega)).trans rfl
    | 26, _ => exact (ho 26 (by omega)).trans rfl
    | 27, _ => exact (ho 27 (by omega)).trans rfl
    | 28, _ => exact (ho 28 (by omega)).trans rfl
    | 29, _ => exact (ho 29 (by omega)).trans rfl
    | 30, _ => exact (ho 30 (by omega)).trans rfl
    | 31, _ => exact (ho 31 (by omega)).trans rfl
    | 32, _ => exact (ho 32 (by omega)).trans rfl
    | 33, _ => exact (ho 33 (by omega)).trans rfl
    | 34, _ => exact (ho 34 (by omega)).trans rfl
    | 35, _ => exact (ho 35 (by omega)).trans rfl
    | 36, _ => exact (ho 36 (by omega)).trans rfl
    | 37, _ => exact (ho 37 (by omega)).trans rfl
    | 38, _ => exact (ho 38 (by omega)).trans rfl
    | 39, _ => exact (ho 39 (by omega)).trans rfl
    | k + 40, hk => omega
set_option maxRecDepth 10000 in
theorem pkin2 {w' : World} {m : Nat} {N1 : Int} {l2 : List Int} {xs' ys : Array Value} {B2 : Nat} (hs : xs'.size = 40) (ho : ∀ k, (k < 20 ∨ 20 + 9 ≤ k) → xs'[k]? = ((pz.setIfInBounds 0 (.int .i64 2)).setIfInBounds 1 (.int .i64 N1))[k]?) (hi : ∀ k, k < 8 → xs'[20 + k]? = some (.int .i64 ((rdv 8 l2).getD k 0)))
    (hl : xs'[20 + 8]? = some (.slice (some ⟨B2, 0, none⟩) (gN (rdr 8 l2)) (gN (rdr 8 l2)))) (hf : m ≤ B2) (hN : gN (rdr 8 l2) ≤ 16) (hB : Bk w' B2 3 ys) (hy : ∀ k, k < gN (rdr 8 l2) * 1 → ys[k]? = some (.int .i64 ((rdv (gN (rdr 8 l2) * 1) (rdr 1 (rdr 8 l2))).getD k 0))) (h0 : rde (gN (rdr 8 l2)) (rdr 1 (rdr 8 l2)) = 0) : PkIn w' m xs' (kP 2 N1 l2) := by
  have e : kP 2 N1 l2 = ⟨2, N1, Dt.zero, ⟨(rdv 8 l2).getD 0 0, (rdv 8 l2).getD 1 0, (rdv 8 l2).getD 2 0, (rdv 8 l2).getD 3 0, (rdv 8 l2).getD 4 0, (rdv 8 l2).getD 5 0, (rdv 8 l2).getD 6 0, (rdv 8 l2).getD 7 0, rdv (gN (rdr 8 l2)) (rdr 1 (rdr 8 l2))⟩, Jn.zero, Cm.zero, Bn.zero⟩ := rfl
  rw [e]
  clear e
  have hL := rdv_len _ _ h0
  rw [Nat.mul_one] at hy
  generalize rdv (gN (rdr 8 l2)) (rdr 1 (rdr 8 l2)) = L at *
  generalize gN (rdr 8 l2) = N at *
  subst hL
  refine ⟨none, 0, some ⟨B2, 0, none⟩, L.length, none, 0, arr40 hs rfl (fun k hk => ?_), Sl.nil _, rowI hB hN rfl hy, SlE.nil _, fun h => absurd rfl h, fun _ g hg => by simp only [Value.ownBlock, Option.some.injEq] at hg; omega, fun h => absurd rfl h⟩
  match k, hk with
    | 0, _ => exact (ho 0 (by omega)).trans rfl
    | 1, _ => exact (ho 1 (by omega)).trans rfl
    | 2, _ => exact (ho 2 (by omega)).trans rfl
    | 3, _ => exact (ho 3 (by omega)).trans rfl
    | 4, _ => exact (ho 4 (by omega)).trans rfl
    | 5, _ => exact (ho 5 (by omega)).trans rfl
    | 6, _ => exact (ho 6 (by omega)).trans rfl
    | 7, _ => exact (ho 7 (by omega)).trans rfl
    | 8, _ => exact (ho 8 (by omega)).trans rfl
    | 9, _ => exact (ho 9 (by omega)).trans rfl
    | 10, _ => exact (ho 10 (by omega)).trans rfl
    | 11, _ => exact (ho 11 (by omega)).trans rfl
    | 12, _ => exact (ho 12 (by omega)).trans rfl
    | 13, _ => exact (ho 13 (by omega)).trans rfl
    | 14, _ => exact (ho 14 (by omega)).trans rfl
    | 15, _ => exact (ho 15 (by omega)).trans rfl
    | 16, _ => exact (ho 16 (by omega)).trans rfl
    | 17, _ => exact (ho 17 (by omega)).trans rfl
    | 18, _ => exact (ho 18 (by omega)).trans rfl
    | 19, _ => exact (ho 19 (by omega)).trans rfl
    | 20, _ => exact (hi 0 (by omega)).trans rfl
    | 21, _ => exact (hi 1 (by omega)).trans rfl
    | 22, _ => exact (hi 2 (by omega)).trans rfl
    | 23, _ => exact (hi 3 (by omega)).trans rfl
    | 24, _ => exact (hi 4 (by omega)).trans rfl
    | 25, _ => exact (hi 5 (by omega)).trans rfl
    | 26, _ => exact (hi 6 (by omega)).trans rfl
    | 27, _ => exact (hi 7 (by omega)).trans rfl
    | 28, _ => exact hl.trans rfl
    | 29, _ => exact (ho 29 (by omega)).trans rfl
    | 30, _ => exact (ho 30 (by omega)).trans rfl
    | 31, _ => exact (ho 31 (by omega)).trans rfl
    | 32, _ => exact (ho 32 (by omega)).trans rfl
    | 33, _ => exact (ho 33 (by omega)).trans rfl
    | 34, _ => exact (ho 34 (by omega)).trans rfl
    | 35, _ => exact (ho 35 (by omega)).trans rfl
    | 36, _ => exact (ho 36 (by omega)).trans rfl
    | 37, _ => exact (ho 37 (by omega)).trans rfl
    | 38, _ => exact (ho 38 (by omega)).trans rfl
    | 39, _ => exact (ho 39 (by omega)).trans rfl
    | k + 40, hk => omega
set_option maxRecDepth 10000 in
theorem pkin4 {w' : World} {m : Nat} {N1 : Int} {l2 : List Int} {xs' ys : Array Value} {B2 : Nat} {t : TypeId} (hs : xs'.size = 40) (ho : ∀ k, (k < 32 ∨ 32 + 5 ≤ k) → xs'[k]? = ((pz.setIfInBounds 0 (.int .i64 4)).setIfInBounds 1 (.int .i64 N1))[k]?) (hi : ∀ k, k < 4 → xs'[32 + k]? = some (.int .i64 ((rdv 4 l2).getD k 0)))
    (hl : xs'[32 + 4]? = some (.slice (some ⟨B2, 0, none⟩) (gN (rdr 4 l2)) (gN (rdr 4 l2)))) (hf : m ≤ B2) (hN : gN (rdr 4 l2) ≤ 8) (hB : Bk w' B2 t ys) (hy : ∀ k, k < gN (rdr 4 l2) * 6 → ys[k]? = some (.int .i64 ((rdv (gN (rdr 4 l2) * 6) (rdr 1 (rdr 4 l2))).getD k 0))) : PkIn w' m xs' (kP 4 N1 l2) := by
  have e : kP 4 N1 l2 = ⟨4, N1, Dt.zero, Tk.zero, Jn.zero, ⟨(rdv 4 l2).getD 0 0, (rdv 4 l2).getD 1 0, (rdv 4 l2).getD 2 0, (rdv 4 l2).getD 3 0, ents (gN (rdr 4 l2)) (rdv (gN (rdr 4 l2) * 6) (rdr 1 (rdr 4 l2)))⟩, Bn.zero⟩ := rfl
  rw [e]
  clear e
  generalize rdv (gN (rdr 4 l2) * 6) (rdr 1 (rdr 4 l2)) = L at *
  generalize gN (rdr 4 l2) = N at *
  have hR := rowE hB hN hy
  have hEL := ents_len N L
  have hl' : xs'[32 + 4]? = some (.slice (some ⟨B2, 0, none⟩) (ents N L).length N) := by rw [hEL]; exact hl
  generalize ents N L = es at *
  refine ⟨none, 0, none, 0, some ⟨B2, 0, none⟩, N, arr40 hs rfl (fun k hk => ?_), Sl.nil _, CrSl.nil _, hR, fun h => absurd rfl h, fun h => absurd rfl h, fun _ g hg => by simp only [Value.ownBlock, Option.some.injEq] at hg; omega⟩
  match k, hk with
    | 0, _ => exact (ho 0 (by omega)).trans rfl
    | 1, _ => exact (ho 1 (by omega)).trans rfl
    | 2, _ => exact (ho 2 (by omega)).trans rfl
    | 3, _ => exact (ho 3 (by omega)).trans rfl
    | 4, _ => exact (ho 4 (by omega)).trans rfl
    | 5, _ => exact (ho 5 (by omega)).trans rfl
    | 6, _ => exact (ho 6 (by omega)).trans rfl
    | 7, _ => exact (ho 7 (by omega)).trans rfl
    | 8, _ => exact (ho 8 (by omega)).trans rfl
    | 9, _ => exact (ho 9 (by omega)).trans rfl
    | 10, _ => exact (ho 10 (by omega)).trans rfl
    | 11, _ => exact (ho 11 (by omega)).trans rfl
    | 12, _ => exact (ho 12 (by omega)).trans rfl
    | 13, _ => exact (ho 13 (by omega)).trans rfl
    | 14, _ => exact (ho 14 (by omega)).trans rfl
    | 15, _ => exact (ho 15 (by omega)).trans rfl
    | 16, _ => exact (ho 16 (by omega)).trans rfl
    | 17, _ => exact (ho 17 (by omega)).trans rfl
    | 18, _ => exact (ho 18 (by omega)).trans rfl
    | 19, _ => exact (ho 19 (by omega)).trans rfl
    | 20, _ => exact (ho 20 (by omega)).trans rfl
    | 21, _ => exact (ho 21 (by omega)).trans rfl
    | 22, _ => exact (ho 22 (by omega)).trans rfl
    | 23, _ => exact (ho 23 (by omega)).trans rfl
    | 24, _ => exact (ho 24 (by omega)).trans rfl
    | 25, _ => exact (ho 25 (by omega)).trans rfl
    | 26, _ => exact (ho 26 (by omega)).trans rfl
    | 27, _ => exact (ho 27 (by omega)).trans rfl
    | 28, _ => exact (ho 28 (by omega)).trans rfl
    | 29, _ => exact (ho 29 (by omega)).trans rfl
    | 30, _ => exact (ho 30 (by omega)).trans rfl
    | 31, _ => exact (ho 31 (by omega)).trans rfl
    | 32, _ => exact (hi 0 (by omega)).trans rfl
    | 33, _ => exact (hi 1 (by omega)).trans rfl
    | 34, _ => exact (hi 2 (by omega)).trans rfl
    | 35, _ => exact (hi 3 (by omega)).trans rfl
    | 36, _ => exact hl'.trans rfl
    | 37, _ => exact (ho 37 (by omega)).trans rfl
    | 38, _ => exact (ho 38 (by omega)).trans rfl
    | 39, _ => exact (ho 39 (by omega)).trans rfl
    | k + 40, hk => omega
set_option maxRecDepth 10000 in
theorem pkin3 {w' : World} {m : Nat} {N1 : Int} {l2 : List Int} {xs' : Array Value} (hs : xs'.size = 40) (ho : ∀ k, (k < 29 ∨ 29 + 3 ≤ k) → xs'[k]? = ((pz.setIfInBounds 0 (.int .i64 3)).setIfInBounds 1 (.int .i64 N1))[k]?) (hi : ∀ k, k < 3 → xs'[29 + k]? = some (.int .i64 ((rdv 3 l2).getD k 0))) : PkIn w' m xs' (kP 3 N1 l2) := by
  have e : kP 3 N1 l2 = ⟨3, N1, Dt.zero, Tk.zero, ⟨(rdv 3 l2).getD 0 0, (rdv 3 l2).getD 1 0, (rdv 3 l2).getD 2 0⟩, Cm.zero, Bn.zero⟩ := rfl
  rw [e]
  clear e
  refine ⟨none, 0, none, 0, none, 0, arr40 hs rfl (fun k hk => ?_), Sl.nil _, CrSl.nil _, SlE.nil _, fun h => absurd rfl h, fun h => absurd rfl h, fun h => absurd rfl h⟩
  match k, hk with
    | 0, _ => exact (ho 0 (by omega)).trans rfl
    | 1, _ => exact (ho 1 (by omega)).trans rfl
    | 2, _ => exact (ho 2 (by omega)).trans rfl
    | 3, _ => exact (ho 3 (by omega)).trans rfl
    | 4, _ => exact (ho 4 (by omega)).trans rfl
    | 5, _ => exact (ho 5 (by omega)).trans rfl
    | 6, _ => exact (ho 6 (by omega)).trans rfl
    | 7, _ => exact (ho 7 (by omega)).trans rfl
    | 8, _ => exact (ho 8 (by omega)).trans rfl
    | 9, _ => exact (ho 9 (by omega)).trans rfl
    | 10, _ => exact (ho 10 (by omega)).trans rfl
    | 11, _ => exact (ho 11 (by omega)).trans rfl
    | 12, _ => exact (ho 12 (by omega)).trans rfl
    | 13, _ => exact (ho 13 (by omega)).trans rfl
    | 14, _ => exact (ho 14 (by omega)).trans rfl
    | 15, _ => exact (ho 15 (by omega)).trans rfl
    | 16, _ => exact (ho 16 (by omega)).trans rfl
    | 17, _ => exact (ho 17 (by omega)).trans rfl
    | 18, _ => exact (ho 18 (by omega)).trans rfl
    | 19, _ => exact (ho 19 (by omega)).trans rfl
    | 20, _ => exact (ho 20 (by omega)).trans rfl
    | 21, _ => exact (ho 21 (by omega)).trans rfl
    | 22, _ => exact (ho 22 (by omega)).trans rfl
    | 23, _ => exact (ho 23 (by omega)).trans rfl
    | 24, _ => exact (ho 24 (by omega)).trans rfl
    | 25, _ => exact (ho 25 (by omega)).trans rfl
    | 26, _ => exact (ho 26 (by omega)).trans rfl
    | 27, _ => exact (ho 27 (by omega)).trans rfl
    | 28, _ => exact (ho 28 (by omega)).trans rfl
    | 29, _ => exact (hi 0 (by omega)).trans rfl
    | 30, _ => exact (hi 1 (by omega)).trans rfl
    | 31, _ => exact (hi 2 (by omega)).trans rfl
    | 32, _ => exact (ho 32 (by omega)).trans rfl
    | 33, _ => exact (ho 33 (by omega)).trans rfl
    | 34, _ => exact (ho 34 (by omega)).trans rfl
    | 35, _ => exact (ho 35 (by omega)).trans rfl
    | 36, _ => exact (ho 36 (by omega)).trans rfl
    | 37, _ => exact (ho 37 (by omega)).trans rfl
    | 38, _ => exact (ho 38 (by omega)).trans rfl
    | 39, _ => exact (ho 39 (by omega)).trans rfl
    | k + 40, hk => omega
set_option maxRecDepth 10000 in
theorem pkin5 {w' : World} {m : Nat} {N1 : Int} {l2 : List Int} {xs' : Array Value} (hs : xs'.size = 40) (ho : ∀ k, (k < 37 ∨ 37 + 3 ≤ k) → xs'[k]? = ((pz.setIfInBounds 0 (.int .i64 5)).setIfInBounds 1 (.int .i64 N1))[k]?) (hi : ∀ k, k < 3 → xs'[37 + k]? = some (.int .i64 ((rdv 3 l2).getD k 0))) : PkIn w' m xs' (kP 5 N1 l2) := by
  have e : kP 5 N1 l2 = ⟨5, N1, Dt.zero, Tk.zero, Jn.zero, Cm.zero, ⟨(rdv 3 l2).getD 0 0, (rdv 3 l2).getD 1 0, (rdv 3 l2).getD 2 0⟩⟩ := rfl
  rw [e]
  clear e
  refine ⟨none, 0, none, 0, none, 0, arr40 hs rfl (fun k hk => ?_), Sl.nil _, CrSl.nil _, SlE.nil _, fun h => absurd rfl h, fun h => absurd rfl h, fun h => absurd rfl h⟩
  match k, hk with
    | 0, _ => exact (ho 0 (by omega)).trans rfl
    | 1, _ => exact (ho 1 (by omega)).trans rfl
    | 2, _ => exact (ho 2 (by omega)).trans rfl
    | 3, _ => exact (ho 3 (by omega)).trans rfl
    | 4, _ => exact (ho 4 (by omega)).trans rfl
    | 5, _ => exact (ho 5 (by omega)).trans rfl
    | 6, _ => exact (ho 6 (by omega)).trans rfl
    | 7, _ => exact (ho 7 (by omega)).trans rfl
    | 8, _ => exact (ho 8 (by omega)).trans rfl
    | 9, _ => exact (ho 9 (by omega)).trans rfl
    | 10, _ => exact (ho 10 (by omega)).trans rfl
    | 11, _ => exact (ho 11 (by omega)).trans rfl
    | 12, _ => exact (ho 12 (by omega)).trans rfl
    | 13, _ => exact (ho 13 (by omega)).trans rfl
    | 14, _ => exact (ho 14 (by omega)).trans rfl
    | 15, _ => exact (ho 15 (by omega)).trans rfl
    | 16, _ => exact (ho 16 (by omega)).trans rfl
    | 17, _ => exact (ho 17 (by omega)).trans rfl
    | 18, _ => exact (ho 18 (by omega)).trans rfl
    | 19, _ => exact (ho 19 (by omega)).trans rfl
    | 20, _ => exact (ho 20 (by omega)).trans rfl
    | 21, _ => exact (ho 21 (by omega)).trans rfl
    | 22, _ => exact (ho 22 (by omega)).trans rfl
    | 23, _ => exact (ho 23 (by omega)).trans rfl
    | 24, _ => exact (ho 24 (by omega)).trans rfl
    | 25, _ => exact (ho 25 (by omega)).trans rfl
    | 26, _ => exact (ho 26 (by omega)).trans rfl
    | 27, _ => exact (ho 27 (by omega)).trans rfl
    | 28, _ => exact (ho 28 (by omega)).trans rfl
    | 29, _ => exact (ho 29 (by omega)).trans rfl
    | 30, _ => exact (ho 30 (by omega)).trans rfl
    | 31, _ => exact (ho 31 (by omega)).trans rfl
    | 32, _ => exact (ho 32 (by omega)).trans rfl
    | 33, _ => exact (ho 33 (by omega)).trans rfl
    | 34, _ => exact (ho 34 (by omega)).trans rfl
    | 35, _ => exact (ho 35 (by omega)).trans rfl
    | 36, _ => exact (ho 36 (by omega)).trans rfl
    | 37, _ => exact (hi 0 (by omega)).trans rfl
    | 38, _ => exact (hi 1 (by omega)).trans rfl
    | 39, _ => exact (hi 2 (by omega)).trans rfl
    | k + 40, hk => omega
end Go.Proofs.Ytajhpnfpjickbaa
