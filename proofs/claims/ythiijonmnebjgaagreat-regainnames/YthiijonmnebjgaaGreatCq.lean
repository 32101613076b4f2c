/- Contracts of parcel's readPlaces: the places that come next, or what is wrong with them. No conditions beyond sizes that a slice of bytes has. -/
import Derived.Test.YthiijonmnebjgaaGreatCp
import Derived.Deep.RegionHeld3
namespace Go.Proofs.YthiijonmnebjgaaGreat
open Go.RowKit
/-- Ints in a block that holds places. -/
def PA (w : World) (b : Nat) (xs : List Int) : Prop := w.heap[b]? = some (.cells (xs.map (Value.int .i64)).toArray 147 (0, 0))
theorem PA.set {w : World} {b : Nat} {xs : List Int} (h : PA w b xs) (q : Nat) (x : Int) : PA (w.setCell ⟨b, q, none⟩ (.int .i64 x)) b (xs.set q x) := by
  unfold PA at *
  simp [World.setCell, Array.getElem?_modify, h, List.map_set]
theorem PA.cell {w : World} {b : Nat} {xs : List Int} (h : PA w b xs) {q : Nat} (hq : q < xs.length) : w.cell? ⟨b, q, none⟩ = some (.int .i64 (xs.getD q 0)) := by
  unfold PA at h
  simp [World.cell?, h, hq]
theorem PA.frz {w : World} {b : Nat} {xs : List Int} (h : PA w b xs) (q : Nat) : w.frozen? ⟨b, q, none⟩ = false := by
  unfold PA at h
  simp [World.frozen?, h]
theorem PA.mod {S : Nat → Prop} {w w' : World} {b : Nat} {xs : List Int} (h : PA w b xs) (hm : Mod S w w') (hb : ¬ S b) : PA w' b xs := hm.obj h hb
theorem PA.pt {w : World} {m : Nat} {xs : List Int} (h : PA w m xs) {r b : Nat} {v : Value} {q : Nat} (hq : q < xs.length) (h1 : m ≠ r) (h2 : m ≠ b) (h3 : v.ownBlock ≠ some m) : Pt w r b v (m, q) := ⟨⟨_, h.cell hq⟩, h.frz q, h1, h2, h3⟩
theorem get4p (r : Nat) (v : Value) (L : List Int) (m q b : Nat) (cap : Nat) (xs : List Int) (w : World) (h : Rd w r v L) (hm : PA w m xs) (hq : q + 3 < xs.length) (hb : PB w b [(m, q), (m, q + 1), (m, q + 2), (m, q + 3)])
    (n1 : m ≠ r) (n3 : b ≠ r) (n4 : m ≠ b) (n7 : v.ownBlock ≠ some m) :
    Calls Tryz.prog 97 #[.pointer (some ⟨r, 0, none⟩), .slice (some ⟨b, 0, none⟩) 4 cap] w fun e w' => e = .returned (.int .i64 (rde 4 L)) ∧
      ∃ v', Rd w' r v' (rdr 4 L) ∧ Mod (fun k => k = r ∨ k = m) w w' ∧ (∀ g, v'.ownBlock = some g → v.ownBlock = some g) ∧
        (rde 4 L = 0 → PA w' m ((((xs.set q ((rdv 4 L).getD 0 0)).set (q + 1) ((rdv 4 L).getD 1 0)).set (q + 2) ((rdv 4 L).getD 2 0)).set (q + 3) ((rdv 4 L).getD 3 0))) := by
  have hp : ∀ a ∈ [(m, q), (m, q + 1), (m, q + 2), (m, q + 3)], Pt w r b v a := by
    intro a ha
    simp only [List.mem_cons, List.not_mem_nil, or_false] at ha
    rcases ha with rfl | rfl | rfl | rfl <;> exact hm.pt (by omega) n1 n4 n7
  refine (get_all r v L [(m, q), (m, q + 1), (m, q + 2), (m, q + 3)] b 0 cap w h hp n3 hb (by simp)).mono ?_
  rintro e w' ⟨rfl, v', hr, hM, ho⟩
  have hS := sets_mod ([(m, q), (m, q + 1), (m, q + 2), (m, q + 3)].zip (rdv 4 L)) w
  refine ⟨rfl, v', hr, ?_, ho, ?_⟩
  · refine hS.trans hM ?_ (fun _ _ h => .inl h)
    rintro i _ ⟨y, hy, rfl⟩
    have := zip_blk hy
    simp only [List.mem_cons, List.not_mem_nil, or_false] at this
    rcases this with e | e | e | e <;> simp [e]
  · intro h0
    have hl := rdv_len 4 L h0
    have e := list4 _ hl
    have hM' : Mod (fun k => k = r) (sets w ([(m, q), (m, q + 1), (m, q + 2), (m, q + 3)].zip (rdv 4 L))) w' := hM
    rw [e] at hM'
    have hm' : PA (sets w ([(m, q), (m, q + 1), (m, q + 2), (m, q + 3)].zip [(rdv 4 L).getD 0 0, (rdv 4 L).getD 1 0, (rdv 4 L).getD 2 0, (rdv 4 L).getD 3 0])) m ((((xs.set q ((rdv 4 L).getD 0 0)).set (q + 1) ((rdv 4 L).getD 1 0)).set (q + 2) ((rdv 4 L).getD 2 0)).set (q + 3) ((rdv 4 L).getD 3 0)) :=
      ((((hm.set q _).set (q + 1) _).set (q + 2) _).set (q + 3) _)
    exact hm'.mod hM' n1
/-- Places one behind the other. -/
def flat : List Pl → List Int
  | [] => []
  | p :: l => p.n4 ++ flat l
theorem flat_app : ∀ (l m : List Pl), flat (l ++ m) = flat l ++ flat m
  | [], _ => rfl
  | p :: l, m => by simp [flat, flat_app l m]
theorem flat_len : ∀ (l : List Pl), (flat l).length = 4 * l.length
  | [] => rfl
  | p :: l => by simp [flat, flat_len l, Pl.n4]; omega
theorem flat_get : ∀ (l : List Pl) (j : Nat) (p : Pl), l[j]? = some p → (flat l).getD (j * 4) 0 = p.ring ∧ (flat l).getD (j * 4 + 1) 0 = p.ps ∧ (flat l).getD (j * 4 + 2) 0 = p.pr ∧ (flat l).getD (j * 4 + 3) 0 = p.mb
  | [], j, p, h => by simp at h
  | q :: l, 0, p, h => by
    simp only [List.getElem?_cons_zero, Option.some.injEq] at h
    subst h
    exact ⟨rfl, rfl, rfl, rfl⟩
  | q :: l, j + 1, p, h => by
    simp only [List.getElem?_cons_succ] at h
    have ih := flat_get l j p h
    have e : ∀ k, (flat (q :: l)).getD ((j + 1) * 4 + k) 0 = (flat l).getD (j * 4 + k) 0 := fun k => by
      rw [show (j + 1) * 4 + k = (j * 4 + k) + 4 from by omega]
      rfl
    exact ⟨(e 0).trans ih.1, (e 1).trans ih.2.1, (e 2).trans ih.2.2.1, (e 3).trans ih.2.2.2⟩
theorem PA.slp {w : World} {b n : Nat} {l : List Pl} (h : PA w b (flat l)) (hn : l.length = n) (hm : n ≤ 4) (hr : ∀ p ∈ l, I64 p.ring ∧ I64 p.mb) : SlP w (.slice (some ⟨b, 0, none⟩) n n) l := by
  subst hn
  refine ⟨⟨_, _, rfl, Nat.le_refl _, by unfold maxLen; omega, (by intro h; cases h), fun _ => ⟨b, 0, rfl, fun j p hp => ?_⟩⟩, hr⟩
  have hj : j < l.length := (List.getElem?_eq_some_iff.1 hp).1
  have hl := flat_len l
  obtain ⟨e0, e1, e2, e3⟩ := flat_get l j p hp
  rw [Nat.zero_add]
  refine ⟨?_, ?_, ?_, ?_⟩
  · rw [h.cell (by omega), e0]
  · rw [h.cell (by omega), e1]
  · rw [h.cell (by omega), e2]
  · rw [h.cell (by omega), e3]
theorem flat_set (A Z : List Int) (q : Nat) (x0 x1 x2 x3 : Int) (hq : A.length = q) : ((((A ++ 0 :: 0 :: 0 :: 0 :: Z).set q x0).set (q + 1) x1).set (q + 2) x2).set (q + 3) x3 = A ++ x0 :: x1 :: x2 :: x3 :: Z := by
  subst hq
  induction A with
  | nil => rfl
  | cons a A ih => simp only [List.cons_append, List.length_cons, List.set_cons_succ, Nat.succ_add, ih] at *
theorem infoPlace : (Tryz.prog.info? 147).map (fun i => (i.zero, i.size, i.bytes)) = some (some (.agg #[.int .i64 0, .int .i64 0, .int .i64 0, .int .i64 0]), 4, 32) := by kernel_rfl
theorem make_places (n : Nat) (hn : n ≤ 4) (W : World) : (Instr.makeSlice 119 (.int .i64 (n : Int)) (.int .i64 (n : Int))).run Tryz.prog W = .ok (.slice (some ⟨W.heap.size, 0, none⟩) n n) (W.alloc (.cells (Array.replicate (4 * n) (Value.int .i64 0)) 147)) := by
  obtain ⟨i0, hi, hz0, hz1, hz2⟩ := info_parts infoPlace
  have h := run_make (P := Tryz.prog) W 119 147 i0 (.agg #[.int .i64 0, .int .i64 0, .int .i64 0, .int .i64 0]) Tryz.underlying119 hi hz0 .i64 .i64 (n : Int) (n : Int) (by omega) (by omega) (by rw [hz2]; omega) (by omega)
  have e : madeCells (Value.agg #[.int .i64 0, .int .i64 0, .int .i64 0, .int .i64 0]).cells (n * 4) = Array.replicate (4 * n) (Value.int .i64 0) := by
    apply Array.ext
    · simp [madeCells]; omega
    · intro i h1 h2
      have hk : i % 4 < 4 := Nat.mod_lt i (by omega)
      simp only [madeCells, Array.getElem_map, Array.getElem_range, Array.getElem_replicate]
      show (#[Value.int .i64 0, Value.int .i64 0, Value.int .i64 0, Value.int .i64 0] : Array Value)[i % 4]! = Value.int .i64 0
      generalize i % 4 = k at hk
      match k, hk with
      | 0, _ => rfl
      | 1, _ => rfl
      | 2, _ => rfl
      | 3, _ => rfl
  rw [h, hz1, Int.toNat_natCast, e]
/-- readPlaces' error. -/
def rlE (b : List Int) : Int := if rde 1 b ≠ 0 then rde 1 b else if 4 < plN b then 5 else rpe (plN b).toNat (rdr 1 b)
theorem plE_rl (b : List Int) : plE b = if rlE b ≠ 0 then rlE b else if ¬ (rpr (plN b).toNat (rdr 1 b) = [] ∧ held 0 (plL b) = true) then 4 else 0 := by
  unfold plE rlE
  by_cases h1 : rde 1 b = 0
  · by_cases h2 : 4 < plN b
    · simp [h1, h2]
    · simp [h1, h2]
  · simp [h1]
theorem get1_start (r : Nat) (v : Value) (L : List Int) (w : World) (h : Rd w r v L) (hv : ∀ g, v.ownBlock = some g → g < w.heap.size) :
    Calls Tryz.prog 97 #[.pointer (some ⟨r, 0, none⟩), .slice (some ⟨w.heap.size + 1, 0, none⟩) 1 1] ((w.alloc (.cells #[.int .i64 0] 3)).alloc (.cells #[.pointer (some ⟨w.heap.size, 0, none⟩)] 127)) fun e w1 => e = .returned (.int .i64 (rde 1 L)) ∧
      ∃ v', Rd w1 r v' (rdr 1 L) ∧ Mod (fun k => k = r) w w1 ∧ (∀ g, v'.ownBlock = some g → g < w.heap.size) ∧ w.heap.size + 1 < w1.heap.size ∧ (rde 1 L = 0 → IB w1 w.heap.size (plN L)) := by
  have hlt := lt_of_block h.blk
  have hM : Mod (fun _ => False) w ((w.alloc (.cells #[.int .i64 0] 3)).alloc (.cells #[.pointer (some ⟨w.heap.size, 0, none⟩)] 127)) := ((Mod.refl _ w).alloc _).alloc _
  have hR := h.mod hM (fun h => h) (fun _ _ h => h)
  have hc : IB ((w.alloc (.cells #[.int .i64 0] 3)).alloc (.cells #[.pointer (some ⟨w.heap.size, 0, none⟩)] 127)) w.heap.size 0 := IB.mod (heap_alloc_new w _) ((Mod.refl (fun _ => False) _).alloc _) (fun h => h)
  have hp : PB ((w.alloc (.cells #[.int .i64 0] 3)).alloc (.cells #[.pointer (some ⟨w.heap.size, 0, none⟩)] 127)) (w.heap.size + 1) [(w.heap.size, 0)] := by
    refine PB.of (t := 127) ?_
    have := heap_alloc_new (w.alloc (.cells #[.int .i64 0] 3)) (.cells #[.pointer (some ⟨w.heap.size, 0, none⟩)] 127)
    rw [show (w.alloc (.cells #[.int .i64 0] 3)).heap.size = w.heap.size + 1 from by simp] at this
    exact this
  have hs : ((w.alloc (.cells #[.int .i64 0] 3)).alloc (.cells #[.pointer (some ⟨w.heap.size, 0, none⟩)] 127)).heap.size = w.heap.size + 1 + 1 := by simp
  generalize ((w.alloc (.cells #[.int .i64 0] 3)).alloc (.cells #[.pointer (some ⟨w.heap.size, 0, none⟩)] 127)) = W at hM hR hc hp hs
  refine (get1 r v L w.heap.size (w.heap.size + 1) 1 0 W hR hc hp (by omega) (by omega) (by omega) ?_).mono ?_
  · intro e; have := hv _ e; omega
  · rintro e w1 ⟨rfl, v', hr1, hm1, ho, hok⟩
    refine ⟨rfl, v', hr1, ?_, fun g hg => hv g (ho g hg), ?_, hok⟩
    · refine hM.trans hm1 (fun _ _ h => h.elim) ?_
      rintro i hi (h | h) <;> omega
    · have := hm1.size; omega
theorem rpv_succ (n : Nat) (l : List Int) : rpv (n + 1) l = if rde 4 l = 0 then plc (rdv 4 l) :: rpv n (rdr 4 l) else [] := rfl
theorem rpe_succ (n : Nat) (l : List Int) : rpe (n + 1) l = if rde 4 l = 0 then rpe n (rdr 4 l) else rde 4 l := rfl
theorem rpr_succ (n : Nat) (l : List Int) : rpr (n + 1) l = if rde 4 l = 0 then rpr n (rdr 4 l) else rdr 4 l := rfl
set_option maxRecDepth 100000 in
set_option maxHeartbeats 2000000 in
theorem readPlaces_go (r : Nat) (v : Value) (L : List Int) (w : World) (h : Rd w r v L) (hv : ∀ g, v.ownBlock = some g → g < w.heap.size) (h1 : rde 1 L = 0) (h4 : plN L ≤ 4) :
    Calls Tryz.prog 128 #[.pointer (some ⟨r, 0, none⟩)] w fun e w' => ∃ v1, e = .returned (.tuple #[v1, .int .i64 (rpe (plN L).toNat (rdr 1 L))]) ∧ Mod (fun x => x = r) w w' ∧
      (rpe (plN L).toNat (rdr 1 L) ≠ 0 → v1 = .slice none 0 0) ∧
      (rpe (plN L).toNat (rdr 1 L) = 0 → ∃ b, v1 = .slice (some ⟨b, 0, none⟩) (plN L).toNat (plN L).toNat ∧ PA w' b (flat (rpv (plN L).toNat (rdr 1 L))) ∧ w.heap.size ≤ b ∧ b < w'.heap.size ∧ ∃ v', Rd w' r v' (rpr (plN L).toNat (rdr 1 L))) := by
  have H := get1_start r v L w h hv
  have hlt := lt_of_block h.blk
  have hN0 : 0 ≤ plN L := (nums_getD (rdv_nums 1 L) 0).1
  rw [h1] at H
  generalize plN L = N at H h4 hN0 ⊢
  obtain ⟨n, rfl⟩ := Int.eq_ofNat_of_zero_le hN0
  rw [Int.toNat_natCast]
  generalize rdr 1 L = L1 at H ⊢
  have hn4 : n ≤ 4 := by omega
  clear h hv h1 hN0
  have hmk := make_places n hn4
  go_enter Tryz.func128, Tryz.ntmps128
  go_wp2_with (fail)
  refine H.mono ?_
  rintro e w1 ⟨rfl, v1, hr1, hm1, ho1, hs1, hok⟩
  have hib := hok trivial
  clear H hok
  have c0 := hib.cell
  go_wp2
  clear hmk
  have hMA := hm1.alloc (.cells (Array.replicate (4 * n) (Value.int .i64 0)) 147)
  have hRA := hr1.mod ((Mod.refl (fun _ => False) w1).alloc (.cells (Array.replicate (4 * n) (Value.int .i64 0)) 147)) (fun h => h) (fun _ _ h => h)
  have hPA : PA (w1.alloc (.cells (Array.replicate (4 * n) (Value.int .i64 0)) 147)) w1.heap.size (flat [] ++ List.replicate (4 * (n - 0)) 0) := by
    have := heap_alloc_new w1 (.cells (Array.replicate (4 * n) (Value.int .i64 0)) 147)
    unfold PA
    rw [this]
    simp [flat]
  have hsA : (w1.alloc (.cells (Array.replicate (4 * n) (Value.int .i64 0)) 147)).heap.size = w1.heap.size + 1 := by simp
  go_loopw [24] (fun i wr => ∃ (j : Nat) (v' : Value) (L' : List Int) (done : List Pl), i = .int .i64 j ∧ j ≤ n ∧ Hid (done.length = j) ∧ Hid (rpv n L1 = done ++ rpv (n - j) L') ∧ Hid (rpe n L1 = rpe (n - j) L') ∧ Hid (rpr n L1 = rpr (n - j) L') ∧ Rd wr r v' L' ∧ PA wr w1.heap.size (flat done ++ List.replicate (4 * (n - j)) 0) ∧ Mod (fun k => k = r) w wr ∧ w1.heap.size < wr.heap.size ∧ (∀ g, v'.ownBlock = some g → g < w.heap.size)) (fun i _ => n - (intOf i).toNat)
  case atStart => exact ⟨0, v1, L1, [], rfl, by omega, rfl, rfl, rfl, rfl, hRA, hPA, hMA, by omega, ho1⟩
  case round =>
    obtain ⟨j, v', L', done, rfl, hj, hd, e1, e2, e3, hr, hpa, hm, hs, hown⟩ := hrel
    clear hMA hRA hPA hsA hr1 hm1 ho1 hib c0
    by_cases hlt2 : j < n
    · obtain ⟨m, hmm⟩ : ∃ m, n - j = m + 1 := ⟨n - j - 1, by omega⟩
      have HM : Hid (n - (j + 1) = m) := by show _ = _; omega
      have E1 := e1.out
      have E2 := e2.out
      have E3 := e3.out
      rw [hmm] at E1 E2 E3 hpa
      rw [rpv_succ] at E1
      rw [rpe_succ] at E2
      rw [rpr_succ] at E3
      clear e1 e2 e3 hmm
      have hfl := flat_len done
      rw [hd.out] at hfl
      have hxs : (flat done ++ List.replicate (4 * (m + 1)) (0 : Int)).length = 4 * j + 4 * (m + 1) := by simp [hfl]
      have hMW : Mod (fun _ => False) wr (wr.alloc (.cells #[.pointer (some ⟨w1.heap.size, j * 4, none⟩), .pointer (some ⟨w1.heap.size, j * 4 + 1, none⟩), .pointer (some ⟨w1.heap.size, j * 4 + 1 + 1, none⟩), .pointer (some ⟨w1.heap.size, j * 4 + 3, none⟩)] 127)).drew := ((Mod.refl _ wr).alloc _).drew
      have hPB : PB (wr.alloc (.cells #[.pointer (some ⟨w1.heap.size, j * 4, none⟩), .pointer (some ⟨w1.heap.size, j * 4 + 1, none⟩), .pointer (some ⟨w1.heap.size, j * 4 + 1 + 1, none⟩), .pointer (some ⟨w1.heap.size, j * 4 + 3, none⟩)] 127)).drew wr.heap.size [(w1.heap.size, j * 4), (w1.heap.size, j * 4 + 1), (w1.heap.size, j * 4 + 2), (w1.heap.size, j * 4 + 3)] := PB.of (t := 127) (heap_alloc_new wr (.cells #[.pointer (some ⟨w1.heap.size, j * 4, none⟩), .pointer (some ⟨w1.heap.size, j * 4 + 1, none⟩), .pointer (some ⟨w1.heap.size, j * 4 + 1 + 1, none⟩), .pointer (some ⟨w1.heap.size, j * 4 + 3, none⟩)] 127))
      have hlr : r < w.heap.size := hlt
      have HG := get4p r v' L' w1.heap.size (j * 4) wr.heap.size 4 _ (wr.alloc (.cells #[.pointer (some ⟨w1.heap.size, j * 4, none⟩), .pointer (some ⟨w1.heap.size, j * 4 + 1, none⟩), .pointer (some ⟨w1.heap.size, j * 4 + 1 + 1, none⟩), .pointer (some ⟨w1.heap.size, j * 4 + 3, none⟩)] 127)).drew (hr.mod hMW (fun h => h) (fun _ _ h => h)) (hpa.mod hMW (fun h => h)) (by rw [hxs]; omega) hPB (by omega) (by have := hm.size; omega) (by omega) (fun e => by have := hown _ e; omega)
      have hmW : Mod (fun k => k = r) w (wr.alloc (.cells #[.pointer (some ⟨w1.heap.size, j * 4, none⟩), .pointer (some ⟨w1.heap.size, j * 4 + 1, none⟩), .pointer (some ⟨w1.heap.size, j * 4 + 1 + 1, none⟩), .pointer (some ⟨w1.heap.size, j * 4 + 3, none⟩)] 127)).drew := (hm.alloc _).drew
      have hsW : (wr.alloc (.cells #[.pointer (some ⟨w1.heap.size, j * 4, none⟩), .pointer (some ⟨w1.heap.size, j * 4 + 1, none⟩), .pointer (some ⟨w1.heap.size, j * 4 + 1 + 1, none⟩), .pointer (some ⟨w1.heap.size, j * 4 + 3, none⟩)] 127)).drew.heap.size = wr.heap.size + 1 := by
        show (wr.alloc (.cells #[.pointer (some ⟨w1.heap.size, j * 4, none⟩), .pointer (some ⟨w1.heap.size, j * 4 + 1, none⟩), .pointer (some ⟨w1.heap.size, j * 4 + 1 + 1, none⟩), .pointer (some ⟨w1.heap.size, j * 4 + 3, none⟩)] 127)).heap.size = _
        simp
      have hST := fun x0 x1 x2 x3 => flat_set (flat done) (List.replicate (4 * m) 0) (j * 4) x0 x1 x2 x3 (by omega)
      have hrep : List.replicate (4 * (m + 1)) (0 : Int) = 0 :: 0 :: 0 :: 0 :: List.replicate (4 * m) 0 := by
        rw [show 4 * (m + 1) = 4 * m + 1 + 1 + 1 + 1 from by omega]
        rfl
      rw [hrep] at HG
      clear hPB hMW hxs hpa hr hrep
      by_cases he : rde 4 L' = 0
      · rw [if_pos he] at E1 E2 E3
        rw [he] at HG
        have hn4' := rdv_len 4 L' he
        have hplc : (plc (rdv 4 L')).n4 = rdv 4 L' := plc_n4 _ hn4'
        have hl4 := list4 _ hn4'
        have HE1 : Hid (rpv n L1 = done ++ plc (rdv 4 L') :: rpv m (rdr 4 L')) := E1
        have HE2 : Hid (rpe n L1 = rpe m (rdr 4 L')) := E2
        have HE3 : Hid (rpr n L1 = rpr m (rdr 4 L')) := E3
        have HFL : Hid (flat (done ++ [plc (rdv 4 L')]) = flat done ++ [(rdv 4 L').getD 0 0, (rdv 4 L').getD 1 0, (rdv 4 L').getD 2 0, (rdv 4 L').getD 3 0]) := by
          show _ = _
          rw [flat_app, flat, flat, List.append_nil, hplc]
          exact congrArg _ hl4
        clear E1 E2 E3 hl4 hplc hn4' he
        generalize plc (rdv 4 L') = P0 at HE1 HFL
        generalize (rdv 4 L').getD 0 0 = x0 at HG HFL
        generalize (rdv 4 L').getD 1 0 = x1 at HG HFL
        generalize (rdv 4 L').getD 2 0 = x2 at HG HFL
        generalize (rdv 4 L').getD 3 0 = x3 at HG HFL
        generalize rdr 4 L' = L2 at HG HE1 HE2 HE3
        rw [hST] at HG
        clear hST
        go_wp2
        go_region_held3 (fun _ => True) (trivial) ((go_at_call 97; refine HG.mono ?_; rintro e w2 ⟨rfl, v2, hr2, hm2, ho2, hok2⟩))
        have hpa2 := hok2 trivial
        have hm3 : Mod (fun k => k = r) w w2 := hmW.trans hm2 (fun _ _ h => h) (by rintro i hi (h | h); exact h; omega)
        have hs3 := hm2.size
        clear hok2 HG hm hm2 hmW
        go_wp2
        go_roundw
        case rel =>
          refine ⟨j + 1, v2, L2, done ++ [P0], by go_num, by omega, ?_, ?_, ?_, ?_, hr2, ?_, hm3, by omega, fun g hg => hown g (ho2 g hg)⟩
          · show _ = _
            simp [hd.out]
          · show _ = _
            rw [HM.out, HE1.out]
            simp
          · show _ = _
            rw [HM.out, HE2.out]
          · show _ = _
            rw [HM.out, HE3.out]
          · rw [HM.out, HFL.out]
            simpa using hpa2
        case measure => simp [intOf]; omega
      · rw [if_neg he] at E1 E2 E3
        have HE2 : Hid (rpe n L1 = rde 4 L') := E2
        have hen : (rde 4 L' != 0) = true := by simp [he]
        generalize rde 4 L' = E at HG HE2 he hen
        have HEE : Hid (¬ E = 0) := he
        clear E1 E2 E3 he hST
        go_wp2
        go_region_held3 (fun _ => True) (trivial) ((go_at_call 97; refine HG.mono ?_; rintro e w2 ⟨rfl, v2, hr2, hm2, ho2, hok2⟩))
        have hm3 : Mod (fun k => k = r) w w2 := hmW.trans hm2 (fun _ _ h => h) (by rintro i hi (h | h); exact h; omega)
        clear hok2 HG hm hm2 hmW
        go_wp2
        go_ret2
        rw [HE2.out]
        exact ⟨_, rfl, hm3, fun _ => rfl, fun h => absurd h HEE.out⟩
    · obtain rfl : j = n := by omega
      have HE1 := e1.out
      have HE2 := e2.out
      have HE3 := e3.out
      rw [Nat.sub_self, rpv, List.append_nil] at HE1
      rw [Nat.sub_self, rpe] at HE2
      rw [Nat.sub_self, rpr] at HE3
      rw [Nat.sub_self, Nat.mul_zero, List.replicate_zero, List.append_nil] at hpa
      clear e1 e2 e3
      have G1 : Hid (rpv j L1 = done) := HE1
      have G2 : Hid (rpe j L1 = 0) := HE2
      have G3 : Hid (rpr j L1 = L') := HE3
      clear HE1 HE2 HE3
      go_wp2
      go_ret2
      rw [G1.out, G2.out, G3.out]
      exact ⟨_, rfl, hm, fun h => absurd rfl h, fun _ => ⟨_, rfl, hpa, by omega, hs, v', hr⟩⟩
end Go.Proofs.YthiijonmnebjgaaGreat
