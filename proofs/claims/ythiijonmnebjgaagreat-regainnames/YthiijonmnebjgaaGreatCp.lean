/- A slice of places in memory; contract of parcel's areHeld: whether a chart can hold them. Conditions: the numbers are those of an int. -/
import Derived.Test.YthiijonmnebjgaaGreatCd
import Derived.Laws.MakeOwn
namespace Go.Proofs.YthiijonmnebjgaaGreat
open Go.RowKit
def I64 (x : Int) : Prop := -9223372036854775808 ≤ x ∧ x ≤ 9223372036854775807
/-- A place's cells from off on. -/
def Pc (w : World) (b off : Nat) (p : Pl) : Prop :=
  w.cell? ⟨b, off, none⟩ = some (.int .i64 p.ring) ∧ w.cell? ⟨b, off + 1, none⟩ = some (.int .i64 p.ps) ∧ w.cell? ⟨b, off + 2, none⟩ = some (.int .i64 p.pr) ∧ w.cell? ⟨b, off + 3, none⟩ = some (.int .i64 p.mb)
theorem Pc.mod {S : Nat → Prop} {w w' : World} {b off : Nat} {p : Pl} (h : Pc w b off p) (hm : Mod S w w') (hb : ¬ S b) : Pc w' b off p :=
  ⟨hm.cell h.1 hb, hm.cell h.2.1 hb, hm.cell h.2.2.1 hb, hm.cell h.2.2.2 hb⟩
/-- A slice of places. -/
structure SlP (w : World) (v : Value) (l : List Pl) : Prop where
  form : ∃ ao cap, v = .slice ao l.length cap ∧ l.length ≤ cap ∧ cap ≤ maxLen ∧ (ao = none → cap = 0) ∧
    (l ≠ [] → ∃ b off, ao = some ⟨b, off, none⟩ ∧ ∀ j p, l[j]? = some p → Pc w b (off + j * 4) p)
  rng : ∀ p ∈ l, I64 p.ring ∧ I64 p.mb
theorem SlP.mod {S : Nat → Prop} {w w' : World} {v : Value} {l : List Pl} (h : SlP w v l) (hm : Mod S w w') (hv : l ≠ [] → ∀ g, v.ownBlock = some g → ¬ S g) : SlP w' v l := by
  obtain ⟨ao, cap, rfl, h1, h2, h3, h4⟩ := h.form
  refine ⟨⟨ao, cap, rfl, h1, h2, h3, fun hl => ?_⟩, h.rng⟩
  obtain ⟨b, off, rfl, hc⟩ := h4 hl
  exact ⟨b, off, rfl, fun j p hp => (hc j p hp).mod hm (hv hl b rfl)⟩
theorem SlP.nil (w : World) : SlP w (.slice none 0 0) [] := ⟨⟨none, 0, rfl, Nat.le_refl _, by simp [maxLen], fun _ => rfl, fun h => absurd rfl h⟩, by simp⟩
/-- A place in the block b. -/
def PlB (w : World) (b : Nat) (r q p m : Int) : Prop := w.heap[b]? = some (.cells #[.int .i64 r, .int .i64 q, .int .i64 p, .int .i64 m] 147 (0, 0))
theorem PlB.new (w : World) (r q p m : Int) : PlB (w.alloc (.cells #[.int .i64 r, .int .i64 q, .int .i64 p, .int .i64 m] 147)) w.heap.size r q p m := heap_alloc_new w _
theorem PlB.cells {w : World} {b : Nat} {r q p m : Int} (h : PlB w b r q p m) : w.cell? ⟨b, 0, none⟩ = some (.int .i64 r) ∧ w.cell? ⟨b, 1, none⟩ = some (.int .i64 q) ∧ w.cell? ⟨b, 2, none⟩ = some (.int .i64 p) ∧ w.cell? ⟨b, 3, none⟩ = some (.int .i64 m) := by
  unfold PlB at h
  simp [World.cell?, h]
theorem PlB.mod {S : Nat → Prop} {w w' : World} {b : Nat} {r q p m : Int} (h : PlB w b r q p m) (hm : Mod S w w') (hb : ¬ S b) : PlB w' b r q p m := hm.obj h hb
theorem drop_cons' {l : List Pl} {k : Nat} {p : Pl} (h : l[k]? = some p) : l.drop k = p :: l.drop (k + 1) := by
  have hk : k < l.length := (List.getElem?_eq_some_iff.1 h).1
  rw [List.drop_eq_getElem_cons hk]
  congr 1
  rw [List.getElem?_eq_getElem hk] at h
  exact Option.some.inj h
set_option maxRecDepth 100000 in
set_option maxHeartbeats 2000000 in
theorem areHeld (v : Value) (l : List Pl) (w : World) (hs : SlP w v l) :
    Calls Tryz.prog 129 #[v] w fun e w' => e = .returned (.bool (held 0 l)) ∧ Mod (fun _ => False) w w' := by
  obtain ⟨ao, cap, rfl, h1, h2, h3, h4⟩ := hs.form
  have hrng := hs.rng
  clear hs
  unfold maxLen at h2
  go_enter Tryz.func129, Tryz.ntmps129
  go_wp2
  go_loopw [3, 8] (fun z i wr => ∃ (j : Nat) (least : Int), z = .int .i64 least ∧ i = .int .i64 j ∧ j ≤ l.length ∧ Hid (held 0 l = held least (l.drop j)) ∧ Mod (fun _ => False) w wr) (fun _ i _ => l.length - (intOf i).toNat)
  case atStart => exact ⟨0, 0, rfl, rfl, by omega, rfl, Mod.refl _ _⟩
  case round =>
    obtain ⟨j, least, rfl, rfl, hj, hh, hm⟩ := hrel
    by_cases hlt : j < l.length
    · obtain ⟨b, off, rfl, hc⟩ := h4 (by rintro rfl; simp at hlt)
      obtain ⟨p, hp⟩ : ∃ p, l[j]? = some p := ⟨l[j], by simp [hlt]⟩
      obtain ⟨c0, c1, c2, c3⟩ := (hc j p hp).mod hm (fun h => h)
      obtain ⟨r1, r2⟩ := hrng p (List.mem_of_getElem? hp)
      have HH := hh.out
      rw [drop_cons' hp, held] at HH
      clear hc h4 hrng hh
      obtain ⟨rg, q, pr, mb⟩ := p
      dsimp only at c0 c1 c2 c3 r1 r2 HH
      have HR := isRing q pr
      have HC := isCrew mb r2
      generalize isr q pr = x at HR HH
      generalize crew mb = y at HC HH
      have hb := PlB.new wr rg q pr mb
      have hmA := hm.alloc (.cells #[.int .i64 rg, .int .i64 q, .int .i64 pr, .int .i64 mb] 147)
      by_cases k1 : rg < least
      · have HF : Hid (held 0 l = false) := by
          show _ = _
          rw [HH]; simp; omega
        clear HH HR HC
        go_wp2
        go_ret
        rw [HF.out]
        exact ⟨rfl, hmA⟩
      · by_cases k2 : 4 ≤ rg
        · have HF : Hid (held 0 l = false) := by
            show _ = _
            rw [HH]; simp; omega
          clear HH HR HC
          go_wp2
          go_ret
          rw [HF.out]
          exact ⟨rfl, hmA⟩
        · cases x with
          | false =>
            have HF : Hid (held 0 l = false) := by
              show _ = _
              rw [HH]; simp
            clear HH HC
            go_wp2_with (fail)
            refine (HR _).mono ?_
            rintro e w1 ⟨rfl, hm1⟩
            obtain ⟨d0, d1, d2, d3⟩ := (hb.mod hm1 (fun h => h)).cells
            go_wp2
            go_ret
            rw [HF.out]
            exact ⟨rfl, hmA.trans hm1 (fun _ _ h => h) (fun _ _ h => h)⟩
          | true =>
            cases y with
            | false =>
              have HF : Hid (held 0 l = false) := by
                show _ = _
                rw [HH]; simp
              clear HH
              go_wp2_with (fail)
              refine (HR _).mono ?_
              rintro e w1 ⟨rfl, hm1⟩
              obtain ⟨d0, d1, d2, d3⟩ := (hb.mod hm1 (fun h => h)).cells
              go_wp2_with (fail)
              refine (HC _).mono ?_
              rintro e w2 ⟨rfl, rfl⟩
              go_wp2
              go_ret
              rw [HF.out]
              exact ⟨rfl, hmA.trans hm1 (fun _ _ h => h) (fun _ _ h => h)⟩
            | true =>
              have HF : Hid (held 0 l = held (rg + 1) (l.drop (j + 1))) := by
                show _ = _
                rw [HH, show decide (least ≤ rg) = true from by simp; omega, show decide (rg < 4) = true from by simp; omega]
                simp
              clear HH
              go_wp2_with (fail)
              refine (HR _).mono ?_
              rintro e w1 ⟨rfl, hm1⟩
              obtain ⟨d0, d1, d2, d3⟩ := (hb.mod hm1 (fun h => h)).cells
              go_wp2_with (fail)
              refine (HC _).mono ?_
              rintro e w2 ⟨rfl, rfl⟩
              unfold I64 at r1
              go_wp2
              go_roundw
              case rel => exact ⟨j + 1, rg + 1, by go_num, by go_num, by omega, HF, hmA.trans hm1 (fun _ _ h => h) (fun _ _ h => h)⟩
              case measure => simp [intOf]; omega
    · have HF : Hid (held 0 l = true) := by
        show _ = _
        rw [hh.out, List.drop_eq_nil_of_le (by omega)]
        rfl
      clear hh h4
      go_wp2
      go_ret
      rw [HF.out]
      exact ⟨rfl, hm⟩
end Go.Proofs.YthiijonmnebjgaaGreat
