/- Contracts of parcel's put and get, that write and read as many numbers as they are handed: for every writer and reader, every list of numbers and of pointers that lie elsewhere. Conditions: what is written stays below 2^47 bytes. -/
import Derived.Test.YthiijonmnebjgaaGreatCb
namespace Go.Proofs.YthiijonmnebjgaaGreat
open Go.RowKit
theorem packs_snoc (l : List Int) (x : Int) : packs (l ++ [x]) = packs l ++ enc x.toNat := by simp [packs_app, packs]
theorem take_snoc {l : List Int} {k : Nat} (hk : k < l.length) : l.take (k + 1) = l.take k ++ [l.getD k 0] := by
  rw [List.take_succ_eq_append_getElem hk]
  simp [hk]
set_option maxRecDepth 100000 in
theorem put_all (p : Nat) (v : Value) (L vs : List Int) (b off cap : Nat) (w : World) (h : Wr w p v L) (hv : Nums vs) (hp : b ≠ p) (ho : v.ownBlock ≠ some b)
    (hc : ∀ j, j < vs.length → w.cell? ⟨b, off + j, none⟩ = some (.int .i64 (vs.getD j 0))) (hb : L.length + 8 * vs.length ≤ 140737488355328) (hn : vs.length ≤ 1000) :
    Calls Tryz.prog 64 #[.pointer (some ⟨p, 0, none⟩), .slice (some ⟨b, off, none⟩) vs.length cap] w fun e w' => e = .returned (.tuple #[]) ∧ ∃ v', Wr w' p v' (L ++ packs vs) ∧ Mod (fun k => k = p ∨ v.ownBlock = some k) w w' ∧ Fr w v v' := by
  go_enter Tryz.func64, Tryz.ntmps64
  go_wp2
  go_loopw [8] (fun i wr => ∃ (j : Nat) (v' : Value), i = .int .i64 j ∧ j ≤ vs.length ∧ Wr wr p v' (L ++ packs (vs.take j)) ∧ Mod (fun k => k = p ∨ v.ownBlock = some k) w wr ∧ Fr w v v') (fun i _ => vs.length - (intOf i).toNat)
  case atStart => exact ⟨0, v, rfl, by omega, by simpa [packs] using h, Mod.refl _ _, Fr.refl _ _⟩
  case round =>
    obtain ⟨j, v', rfl, hj, hw, hm, hfr⟩ := hrel
    clear h
    by_cases hlt : j < vs.length
    · have hcj := hm.cell (hc j hlt) (by rintro (h | h); exact hp h; exact ho h)
      have hx := hv _ (getD_mem hlt)
      have hl := packs_len (vs.take j)
      have HT : Hid (vs.take (j + 1) = vs.take j ++ [vs.getD j 0]) := take_snoc hlt
      generalize vs.getD j 0 = x at hcj hx HT
      have hlen : (L ++ packs (vs.take j)).length + 8 ≤ 140737488355328 := by
        rw [List.length_append]
        rw [List.length_take] at hl
        omega
      clear hl hc
      go_wp2_with (fail)
      refine (Put_ok p v' _ x _ hw hx.1 hx.2 hlen).mono ?_
      rintro e w1 ⟨rfl, v1, hw1, hm1, hf1⟩
      go_wp2
      go_roundw
      case rel =>
        refine ⟨j + 1, v1, by go_num, by omega, ?_, ?_, hfr.trans hf1 hm.size⟩
        · rw [HT.out, packs_snoc, ← List.append_assoc]
          exact hw1
        · refine hm.trans hm1 (fun _ _ h => h) ?_
          rintro i hi (h | h)
          · exact .inl h
          · rcases hfr i h with h' | h'
            · exact .inr h'
            · omega
      case measure => simp [intOf]; omega
    · obtain rfl : j = vs.length := by omega
      rw [List.take_length] at hw
      go_wp2
      go_end0
      exact ⟨rfl, v', hw, hm, hfr⟩

theorem rdv_succ (n : Nat) (l : List Int) : rdv (n + 1) l = if (num 0 0 l).2.2 = 0 then (num 0 0 l).1 :: rdv n (l.drop (num 0 0 l).2.1.toNat) else [] := rfl
theorem rde_succ (n : Nat) (l : List Int) : rde (n + 1) l = if (num 0 0 l).2.2 = 0 then rde n (l.drop (num 0 0 l).2.1.toNat) else (num 0 0 l).2.2 := rfl
theorem rdr_succ (n : Nat) (l : List Int) : rdr (n + 1) l = if (num 0 0 l).2.2 = 0 then rdr n (l.drop (num 0 0 l).2.1.toNat) else l := rfl
/-- Numbers stored one behind the other. -/
def sets (w : World) : List ((Nat × Nat) × Int) → World
  | [] => w
  | (a, x) :: l => sets (w.setCell ⟨a.1, a.2, none⟩ (.int .i64 x)) l
theorem sets_app : ∀ (l m : List ((Nat × Nat) × Int)) (w : World), sets w (l ++ m) = sets (sets w l) m
  | [], _, _ => rfl
  | (_, _) :: l, m, _ => sets_app l m _
theorem sets_size : ∀ (l : List ((Nat × Nat) × Int)) (w : World), (sets w l).heap.size = w.heap.size
  | [], _ => rfl
  | (_, _) :: l, w => by rw [sets, sets_size l]; simp [World.setCell]
/-- What is stored elsewhere leaves a block as it was. -/
theorem sets_mod : ∀ (l : List ((Nat × Nat) × Int)) (w : World), Mod (fun k => ∃ x ∈ l, x.1.1 = k) w (sets w l)
  | [], w => Mod.refl _ w
  | (a, x) :: l, w => by
    have h := sets_mod l (w.setCell ⟨a.1, a.2, none⟩ (.int .i64 x))
    refine ((Mod.refl (fun k => k = a.1) w).setCell ⟨a.1, a.2, none⟩ (.int .i64 x) (.inl rfl)).trans h (V := fun k => ∃ y ∈ ((a, x) :: l), y.1.1 = k) ?_ ?_
    · rintro i _ rfl; exact ⟨(a, x), by simp, rfl⟩
    · rintro i _ ⟨y, hy, e⟩; exact ⟨y, by simp [hy], e⟩
/-- One store in two worlds that are alike there. -/
theorem Mod.both {S : Nat → Prop} {a b : World} (h : Mod S a b) (p : Addr) (u : Value) : Mod S (a.setCell p u) (b.setCell p u) := by
  refine ⟨h.os, h.tape, h.output, by simp [World.setCell]; exact h.size, fun k hk hS => ?_⟩
  have hk' : k < a.heap.size := by simpa [World.setCell] using hk
  have e := h.block k hk' hS
  simp only [World.setCell, Array.getElem?_modify, e]
/-- A pointer to an int that may be stored to: not in r, not in b, not in v's block. -/
structure Pt (w : World) (r b : Nat) (v : Value) (a : Nat × Nat) : Prop where
  cell : ∃ x, w.cell? ⟨a.1, a.2, none⟩ = some (.int .i64 x)
  frz : w.frozen? ⟨a.1, a.2, none⟩ = false
  nr : a.1 ≠ r
  nb : a.1 ≠ b
  nv : v.ownBlock ≠ some a.1
theorem frozen_setCell (w : World) (p q : Addr) (u : Value) : (w.setCell p u).frozen? q = w.frozen? q := by
  unfold World.frozen? World.setCell
  simp only [Array.getElem?_modify]
  by_cases h : p.block = q.block
  · rw [if_pos h]
    cases w.heap[q.block]? with
    | none => rfl
    | some o => cases o <;> rfl
  · rw [if_neg h]
theorem frozen_of_block {w w' : World} {q : Addr} (h : w'.heap[q.block]? = w.heap[q.block]?) : w'.frozen? q = w.frozen? q := by
  unfold World.frozen?
  rw [h]
theorem cell_setCell_int {w : World} {p q : Nat × Nat} {x y : Int} (h : w.cell? ⟨q.1, q.2, none⟩ = some (.int .i64 y)) : ∃ z, (w.setCell ⟨p.1, p.2, none⟩ (.int .i64 x)).cell? ⟨q.1, q.2, none⟩ = some (.int .i64 z) := by
  unfold World.cell? World.setCell at *
  simp only [Array.getElem?_modify] at *
  by_cases hb : p.1 = q.1
  · rw [if_pos hb]
    cases ho : w.heap[q.1]? with
    | none => rw [ho] at h; simp at h
    | some o =>
      rw [ho] at h
      cases o with
      | cells c t f =>
        simp only [Option.isSome_none, Bool.false_eq_true, if_false, Option.map_some] at h ⊢
        by_cases hq : p.2 = q.2
        · rw [hq]
          have hlt : q.2 < c.size := by
            rcases Nat.lt_or_ge q.2 c.size with h' | h'
            · exact h'
            · rw [Array.getElem?_eq_none h'] at h; cases h
          exact ⟨x, by simp [hlt]⟩
        · exact ⟨y, by rw [Array.getElem?_setIfInBounds_ne hq]; exact h⟩
      | _ => simp at h
  · rw [if_neg hb]; exact ⟨y, h⟩
theorem Pt.set {w : World} {r b : Nat} {v : Value} {a c : Nat × Nat} {x : Int} (h : Pt w r b v a) : Pt (w.setCell ⟨c.1, c.2, none⟩ (.int .i64 x)) r b v a :=
  ⟨by obtain ⟨y, hy⟩ := h.cell; exact cell_setCell_int hy, by rw [frozen_setCell]; exact h.frz, h.nr, h.nb, h.nv⟩
theorem Pt.sets : ∀ (l : List ((Nat × Nat) × Int)) {w : World} {r b : Nat} {v : Value} {a : Nat × Nat}, Pt w r b v a → Pt (sets w l) r b v a
  | [], _, _, _, _, _, h => h
  | (_, _) :: l, _, _, _, _, _, h => Pt.sets l (Pt.set h)
theorem zip_snoc {ps : List (Nat × Nat)} {done : List Int} {x : Int} {a : Nat × Nat} (ha : ps[done.length]? = some a) : ps.zip (done ++ [x]) = ps.zip done ++ [(a, x)] := by
  induction done generalizing ps with
  | nil =>
    cases ps with
    | nil => simp at ha
    | cons p ps => simp at ha; simp [ha]
  | cons d done ih =>
    cases ps with
    | nil => simp at ha
    | cons p ps => simp at ha; simp [ih ha]
theorem zip_blk {ps : List (Nat × Nat)} {done : List Int} {y : (Nat × Nat) × Int} (h : y ∈ ps.zip done) : y.1 ∈ ps := (List.of_mem_zip h).1
set_option maxRecDepth 100000 in
set_option maxHeartbeats 1000000 in
theorem get_all (r : Nat) (v : Value) (L : List Int) (ps : List (Nat × Nat)) (b off cap : Nat) (w : World) (h : Rd w r v L) (hp : ∀ a ∈ ps, Pt w r b v a) (hbr : b ≠ r)
    (hc : ∀ j a, ps[j]? = some a → w.cell? ⟨b, off + j, none⟩ = some (.pointer (some ⟨a.1, a.2, none⟩))) (hn : ps.length ≤ 1000) :
    Calls Tryz.prog 97 #[.pointer (some ⟨r, 0, none⟩), .slice (some ⟨b, off, none⟩) ps.length cap] w fun e w' => e = .returned (.int .i64 (rde ps.length L)) ∧
      ∃ v', Rd w' r v' (rdr ps.length L) ∧ Mod (fun k => k = r) (sets w (ps.zip (rdv ps.length L))) w' ∧ (∀ g, v'.ownBlock = some g → v.ownBlock = some g) := by
  go_enter Tryz.func97, Tryz.ntmps97
  go_wp2
  go_loopw [4, 11] (fun z i wr => ∃ (j : Nat) (v' : Value) (L' done : List Int), z = .int .i64 0 ∧ i = .int .i64 j ∧ j ≤ ps.length ∧ Hid (done.length = j) ∧ Hid (rdv ps.length L = done ++ rdv (ps.length - j) L') ∧ Hid (rde ps.length L = rde (ps.length - j) L') ∧ Hid (rdr ps.length L = rdr (ps.length - j) L') ∧ Rd wr r v' L' ∧ Mod (fun k => k = r) (sets w (ps.zip done)) wr ∧ (∀ g, v'.ownBlock = some g → v.ownBlock = some g)) (fun _ i _ => ps.length - (intOf i).toNat)
  case atStart => exact ⟨0, v, L, [], rfl, rfl, by omega, rfl, rfl, rfl, rfl, h, by simpa [sets] using Mod.refl _ _, fun _ h => h⟩
  case round =>
    obtain ⟨j, v', L', done, rfl, rfl, hj, hd, e1, e2, e3, hr, hm, hown⟩ := hrel
    clear h
    by_cases hlt : j < ps.length
    · obtain ⟨a, ha⟩ : ∃ a, ps[j]? = some a := ⟨ps[j], by simp [hlt]⟩
      have hmem : a ∈ ps := List.mem_of_getElem? ha
      have hpa := hp a hmem
      have hcj : wr.cell? ⟨b, off + j, none⟩ = some (.pointer (some ⟨a.1, a.2, none⟩)) := by
        refine hm.cell ((sets_mod _ w).cell (hc j a ha) ?_) hbr
        rintro ⟨y, hy, e⟩
        exact (hp y.1 (zip_blk hy)).nb e
      have hps := hpa.sets (ps.zip done)
      obtain ⟨m, hmm⟩ : ∃ m, ps.length - j = m + 1 := ⟨ps.length - j - 1, by omega⟩
      have HM : Hid (ps.length - (j + 1) = m) := by show _ = _; omega
      have E1 := e1.out
      have E2 := e2.out
      have E3 := e3.out
      rw [hmm] at E1 E2 E3
      rw [rdv_succ] at E1
      rw [rde_succ] at E2
      rw [rdr_succ] at E3
      clear e1 e2 e3 hmm hc
      have hG := Get_any r v' L' wr hr
      have hz := num_size L' 0 0
      have hv := num_val L' 0 0
      generalize hN : num 0 0 L' = N at hG hz hv E1 E2 E3
      obtain ⟨x, z, e⟩ := N
      simp only at hG hz hv E1 E2 E3
      by_cases he : e = 0
      · rw [if_pos he] at E1 E2 E3
        subst he
        have HE1 : Hid (rdv ps.length L = done ++ x :: rdv m (List.drop z.toNat L')) := E1
        have HE2 : Hid (rde ps.length L = rde m (List.drop z.toNat L')) := E2
        have HE3 : Hid (rdr ps.length L = rdr m (List.drop z.toNat L')) := E3
        clear E1 E2 E3 hN hz hv
        go_wp2_with (fail)
        refine hG.mono ?_
        rintro e w1 ⟨rfl, v1, hr1, hm1, ho1⟩
        have hmw : Mod (fun k => k = r) (sets w (ps.zip done)) w1 := hm.trans hm1 (fun _ _ h => h) (fun _ _ h => h)
        obtain ⟨y0, hy0⟩ := hps.cell
        have c1 := hmw.cell hy0 hps.nr
        have f1 : w1.frozen? ⟨a.1, a.2, none⟩ = false := by
          rw [← hps.frz]
          exact frozen_of_block (hmw.block a.1 (World.block_lt_of_cell? _ _ hy0) hps.nr)
        have hm2 := hmw.both ⟨a.1, a.2, none⟩ (.int .i64 x)
        have hz2 : ps.zip (done ++ [x]) = ps.zip done ++ [(a, x)] := zip_snoc (by rw [hd.out]; exact ha)
        have hm3 : Mod (fun k => k = r) (sets w (ps.zip (done ++ [x]))) (w1.setCell ⟨a.1, a.2, none⟩ (.int .i64 x)) := by
          rw [hz2, sets_app]
          exact hm2
        have hr2 : Rd (w1.setCell ⟨a.1, a.2, none⟩ (.int .i64 x)) r v1 (List.drop z.toNat L') :=
          hr1.mod ((Mod.refl (fun k => k = a.1) w1).setCell _ _ (.inl rfl)) (fun e => hps.nr e.symm) (fun g hg e => hpa.nv (e ▸ hown _ (ho1 g hg)))
        have HZ : Hid (ps.zip (done ++ [x]) = ps.zip done ++ [(a, x)]) := hz2
        clear hz2 hm2 hG hps hy0
        go_wp2
        go_roundw
        case rel =>
          refine ⟨j + 1, v1, _, done ++ [x], rfl, by go_num, by omega, ?_, ?_, ?_, ?_, hr2, hm3, fun g hg => hown g (ho1 g hg)⟩
          · show _ = _
            simp [hd.out]
          · show _ = _
            rw [HM.out, HE1.out]
            simp
          · show _ = _
            rw [HM.out, HE2.out]
          · show _ = _
            rw [HM.out, HE3.out]
        case measure => simp [intOf]; omega
      · rw [if_neg he] at E1 E2 E3
        rw [List.append_nil] at E1
        have hz0 : z = 0 := by omega
        subst hz0
        have HE1 : Hid (rdv ps.length L = done) := E1
        have HE2 : Hid (rde ps.length L = e) := E2
        have HE3 : Hid (rdr ps.length L = L') := E3
        have hen : (e != 0) = true := by simp [he]
        clear E1 E2 E3 hN hz hv
        have HEE : Hid (¬ e = 0) := he
        clear he
        go_wp2_with (fail)
        refine hG.mono ?_
        rintro e w1 ⟨rfl, v1, hr1, hm1, ho1⟩
        go_wp2
        go_ret
        rw [HE1.out, HE2.out, HE3.out]
        refine ⟨rfl, v1, ?_, hm.trans hm1 (fun _ _ h => h) (fun _ _ h => h), fun g hg => hown g (ho1 g hg)⟩
        simpa using hr1
    · obtain rfl : j = ps.length := by omega
      have HE1 := e1.out
      have HE2 := e2.out
      have HE3 := e3.out
      rw [Nat.sub_self, rdv, List.append_nil] at HE1
      rw [Nat.sub_self, rde] at HE2
      rw [Nat.sub_self, rdr] at HE3
      clear e1 e2 e3
      have G1 : Hid (rdv ps.length L = done) := HE1
      have G2 : Hid (rde ps.length L = 0) := HE2
      have G3 : Hid (rdr ps.length L = L') := HE3
      clear HE1 HE2 HE3
      go_wp2
      go_ret
      rw [G1.out, G2.out, G3.out]
      exact ⟨rfl, v', hr, hm, hown⟩
end Go.Proofs.YthiijonmnebjgaaGreat
