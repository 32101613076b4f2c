/- Contracts of the library's Concat of two rows of entries, and of commit's onward and checked. Conditions: small rows. -/
import Derived.Test.YtlekmgjjjniomaaUc
import Derived.Test.YtlekmgjjjniomaaUd
namespace Go.Proofs.Ytlekmgjjjniomaa
open Go.RowKit
theorem infoC : (Try.prog.info? 26).map (·.size) = some 5 := by kernel_rfl
theorem infoE : (Try.prog.info? 28).map (·.size) = some 6 := by kernel_rfl
/-- In blocks that were not there. -/
abbrev Nw (w : World) (v : Value) : Prop := ∀ g, v.ownBlock = some g → w.heap.size ≤ g
theorem RE.keep {w w' : World} {v : Value} {ds : List Ey} (h : RE w v ds) (hm : Mod (fun _ => False) w w') : RE w' v ds := h.mod hm fun _ _ h => h
theorem SlE.keep {w w' : World} {v : Value} {ds : List Ey} (h : SlE w v ds) (hm : Mod (fun _ => False) w w') : SlE w' v ds := h.mod hm fun _ _ _ h => h
set_option maxRecDepth 100000 in
set_option maxHeartbeats 4000000 in
theorem Concat_two (b : Nat) (v1 v2 : Value) (l1 l2 : List Ey) (w : World) (h0 : w.cell? ⟨b, 0, none⟩ = some v1) (h1 : w.cell? ⟨b, 1, none⟩ = some v2) (s1 : SlE w v1 l1) (s2 : SlE w v2 l2) (b1 : l1.length ≤ 1000) (b2 : l2.length ≤ 1000) :
    Calls Try.prog 47 #[.slice (some ⟨b, 0, none⟩) 2 2] w fun e w' => ∃ v, e = .returned v ∧ RE w' v (l1 ++ l2) ∧ Mod (fun _ => False) w w' ∧ Nw w v := by
  have S1 : Hid (SlE w v1 l1) := s1
  have S2 : Hid (SlE w v2 l2) := s2
  obtain ⟨a1, c1, rfl, _⟩ := s1.shape
  obtain ⟨a2, c2, rfl, _⟩ := s2.shape
  clear s1 s2
  obtain ⟨n1, hn1⟩ : ∃ n, n = l1.length := ⟨_, rfl⟩
  obtain ⟨n2, hn2⟩ : ∃ n, n = l2.length := ⟨_, rfl⟩
  have HL : Hid (n1 = l1.length ∧ n2 = l2.length) := ⟨hn1, hn2⟩
  rw [← hn1] at b1 h0 S1
  rw [← hn2] at b2 h1 S2
  clear hn1 hn2
  have q1 : ¬ (n1 : Int) < 0 := by omega
  have q2 : ¬ (n1 : Int) + (n2 : Int) < 0 := by omega
  have HG : ∀ W, Calls Try.prog 64 #[.slice none 0 0, .int .i64 ((n1 : Int) + (n2 : Int))] W fun e w' => ∃ v, e = .returned v ∧ RE w' v [] ∧ Mod (fun _ => False) W w' ∧ Nw W v := fun W => by
    by_cases h : n1 + n2 = 0
    · have e : (n1 : Int) + (n2 : Int) = 0 := by omega
      rw [e]
      refine (grow_zero W).mono ?_
      rintro e w' ⟨rfl, rfl⟩
      exact ⟨_, rfl, RE.nil _, Mod.refl _ _, fun g hg => by cases hg⟩
    · have e : (n1 : Int) + (n2 : Int) = ((n1 + n2 : Nat) : Int) := by omega
      rw [e]
      exact grow_some (n1 + n2) W (by omega) (by omega)
  go_enter Try.func47, Try.ntmps47
  go_wp2
  go_loopw [3, 11] (fun s i wr => w = wr ∧ ((i = .int .i64 0 ∧ s = .int .i64 0) ∨ (i = .int .i64 1 ∧ s = .int .i64 (n1 : Int)) ∨ (i = .int .i64 2 ∧ s = .int .i64 ((n1 : Int) + (n2 : Int))))) (fun _ i _ => 2 - (intOf i).toNat)
  case atStart => exact ⟨rfl, .inl ⟨rfl, rfl⟩⟩
  case round =>
    obtain ⟨rfl, ⟨rfl, rfl⟩ | ⟨rfl, rfl⟩ | ⟨rfl, rfl⟩⟩ := hrel
    · go_wp2
      go_roundw
      case rel => exact ⟨trivial, .inr (.inl ⟨by go_num, by go_num⟩)⟩
      case measure => simp [intOf]
    · go_wp2
      go_roundw
      case rel => exact ⟨trivial, .inr (.inr ⟨by go_num, by go_num⟩)⟩
      case measure => simp [intOf]
    · go_wp2_with (fail)
      refine (HG _).mono ?_
      rintro e w1 ⟨v, rfl, hr, hm, hn⟩
      have h0' := hm.cell h0 (fun h => h)
      have h1' := hm.cell h1 (fun h => h)
      have HR : Hid (RE w1 v [] ∧ Mod (fun _ => False) w w1 ∧ Nw w v) := ⟨hr, hm, hn⟩
      have HB : Hid (b < w.heap.size) := World.block_lt_of_cell? w _ h0
      clear h0 h1 hr hm hn HG q1 q2
      go_wp2
      go_loopw [6, 27] (fun s i w2 => ∃ (k : Nat) (acc : List Ey), i = .int .i64 (k : Int) ∧ k ≤ 2 ∧ Hid (acc = if k = 0 then [] else if k = 1 then l1 else l1 ++ l2) ∧ Hid (RE w2 s acc ∧ Mod (fun _ => False) w w2 ∧ Nw w s ∧ Mod (fun q => w.heap.size ≤ q) w1 w2)) (fun _ i _ => 2 - (intOf i).toNat)
      case atStart => exact ⟨0, [], rfl, by omega, rfl, HR.out.1, HR.out.2.1, HR.out.2.2, Mod.refl _ _⟩
      case round =>
        obtain ⟨k, acc, rfl, hk, HA, H2⟩ := hrel
        obtain ⟨hr2, hm2, hn2, hmm⟩ := H2.out
        have hbl : b < w.heap.size := HB.out
        have d0 := hmm.cell h0' (show ¬ w.heap.size ≤ b by omega)
        have d1 := hmm.cell h1' (show ¬ w.heap.size ≤ b by omega)
        have T1 := (S1.out.keep hm2)
        have T2 := (S2.out.keep hm2)
        have hk3 : k = 0 ∨ k = 1 ∨ k = 2 := by omega
        rcases hk3 with rfl | rfl | rfl
        · have e : acc = [] := HA.out
          subst e
          go_wp2_with (at_builtin; refine wpList_appE rfl _ _ rfl _ _ [] l1 rfl rfl hr2 T1 (by have := HL.out; first | omega | (simp; omega)) n1 (by have := HL.out; first | omega | (simp; omega)) ?_; intro ax cx w3 hr3 hm3 hf3)
          go_roundw
          case rel => exact ⟨1, _, by go_num, by omega, rfl, by simpa using hr3, hm2.trans hm3 (V := fun _ => False) (fun _ _ h => h) (fun i hi h => by have := hn2 i h; omega), fun g hg => by rcases hf3 g hg with h | h; exact hn2 g h; have := hm2.size; omega, hmm.trans hm3 (fun _ _ h => h) (fun i _ h => hn2 i h)⟩
          case measure => simp [intOf]
        · have e : acc = l1 := HA.out
          rw [e] at hr2
          go_wp2_with (at_builtin; refine wpList_appE rfl _ _ rfl _ _ l1 l2 rfl rfl hr2 T2 (by have := HL.out; first | omega | (simp; omega)) (n1 + n2) (by have := HL.out; first | omega | (simp; omega)) ?_; intro ax cx w3 hr3 hm3 hf3)
          go_roundw
          case rel => exact ⟨2, _, by go_num, by omega, rfl, by simpa using hr3, hm2.trans hm3 (V := fun _ => False) (fun _ _ h => h) (fun i hi h => by have := hn2 i h; omega), fun g hg => by rcases hf3 g hg with h | h; exact hn2 g h; have := hm2.size; omega, hmm.trans hm3 (fun _ _ h => h) (fun i _ h => hn2 i h)⟩
          case measure => simp [intOf]
        · have e : acc = l1 ++ l2 := HA.out
          subst e
          go_wp2
          go_ret
          exact ⟨_, rfl, hr2, hm2, hn2⟩
set_option maxRecDepth 100000 in
set_option maxHeartbeats 4000000 in
theorem onward_any (rs rr mm hp : Int) (cao : Option Addr) (ccap : Nat) (ce : List Ey) (mv : Value) (l2 : List Ey) (w : World) (hs : SlE w (.slice cao ce.length ccap) ce) (h2 : SlE w mv l2) (hc : ce.length ≤ 1000) (hl2 : l2.length ≤ 1000) (hh : 0 ≤ hp ∧ hp ≤ 1000) :
    Calls Try.prog 32 #[.agg #[.int .i64 rs, .int .i64 rr, .int .i64 mm, .int .i64 hp, .slice cao ce.length ccap], mv] w fun e w' => ∃ ao cap, e = .returned (.agg #[.int .i64 rs, .int .i64 rr, .int .i64 mm, .int .i64 (hp + 1), .slice ao (ce ++ l2).length cap]) ∧ RE w' (.slice ao (ce ++ l2).length cap) (ce ++ l2) ∧ Mod (fun _ => False) w w' ∧ Nw w (.slice ao (ce ++ l2).length cap) := by
  obtain ⟨hh0, hh1⟩ := hh
  have H2 : Hid (SlE w mv l2) := h2
  obtain ⟨a2, c2, rfl, _⟩ := h2.shape
  clear h2
  obtain ⟨n, hn⟩ : ∃ n, n = (ce ++ l2).length := ⟨_, rfl⟩
  have HN : Hid (n = (ce ++ l2).length) := hn
  rw [← hn]
  clear hn
  have hB0 := Bk.new w #[.int .i64 rs, .int .i64 rr, .int .i64 mm, .int .i64 hp, .slice cao ce.length ccap] 26
  have hM0 := (Mod.refl (fun _ => False) w).alloc (.cells #[.int .i64 rs, .int .i64 rr, .int .i64 mm, .int .i64 hp, .slice cao ce.length ccap] 26)
  go_enter Try.func32, Try.ntmps32
  clear hB0 hM0
  have hM := (((Mod.refl (fun _ => False) w).alloc (.cells #[.int .i64 rs, .int .i64 rr, .int .i64 mm, .int .i64 (hp + 1), .slice cao ce.length ccap] 26)).alloc (.cells #[.int .i64 0, .int .i64 0, .int .i64 0, .int .i64 0, .slice none 0 0] 26))
  have hB1 := (Bk.new w #[.int .i64 rs, .int .i64 rr, .int .i64 mm, .int .i64 (hp + 1), .slice cao ce.length ccap] 26).other
  go_wp2_with (fail)
  refine (Concat_two _ (.slice cao ce.length ccap) (.slice a2 l2.length c2) ce l2 _ ?_ ?_ (hs.keep (hM.alloc _)) (H2.out.keep (hM.alloc _)) hc hl2).mono ?_
  · have h := (Bk.new ((w.alloc (.cells #[.int .i64 rs, .int .i64 rr, .int .i64 mm, .int .i64 (hp + 1), .slice cao ce.length ccap] 26)).alloc (.cells #[.int .i64 0, .int .i64 0, .int .i64 0, .int .i64 0, .slice none 0 0] 26)) #[.slice cao ce.length ccap, .slice a2 l2.length c2] 24).cellv (j := 0) (v := .slice cao ce.length ccap) rfl
    simpa only [World.size_alloc] using h
  · have h := (Bk.new ((w.alloc (.cells #[.int .i64 rs, .int .i64 rr, .int .i64 mm, .int .i64 (hp + 1), .slice cao ce.length ccap] 26)).alloc (.cells #[.int .i64 0, .int .i64 0, .int .i64 0, .int .i64 0, .slice none 0 0] 26)) #[.slice cao ce.length ccap, .slice a2 l2.length c2] 24).cellv (j := 1) (v := .slice a2 l2.length c2) rfl
    simpa only [World.size_alloc] using h
  rintro e w1 ⟨v, rfl, hr, hm1, hn1⟩
  have hb1 : Bk w1 w.heap.size 26 #[.int .i64 rs, .int .i64 rr, .int .i64 mm, .int .i64 (hp + 1), .slice cao ce.length ccap] := (((Bk.new w _ _).mod ((Mod.refl (fun _ => False) _).alloc _) (fun h => h)).mod ((Mod.refl (fun _ => False) _).alloc _) (fun h => h)).mod hm1 (fun h => h)
  have hb2 : Bk w1 (w.heap.size + 1) 26 #[.int .i64 0, .int .i64 0, .int .i64 0, .int .i64 0, .slice none 0 0] := by
    have := (((Bk.new (w.alloc (.cells #[.int .i64 rs, .int .i64 rr, .int .i64 mm, .int .i64 (hp + 1), .slice cao ce.length ccap] 26)) #[.int .i64 0, .int .i64 0, .int .i64 0, .int .i64 0, .slice none 0 0] 26).mod ((Mod.refl (fun _ => False) _).alloc _) (fun h => h)).mod hm1 (fun h => h))
    simpa using this
  have hM1 := (hM.alloc _).and hm1
  have hlt := hM1.size
  have hvn : Nw w v := fun g hg => Nat.le_trans (hM.alloc _).size (hn1 g hg)
  have hvn2 : ∀ g, v.ownBlock = some g → g ≠ w.heap.size ∧ g ≠ w.heap.size + 1 := fun g hg => by have := hn1 g hg; simp at this; omega
  obtain ⟨ax, cx, rfl⟩ := hr.shape
  have HR : Hid (RE w1 (.slice ax (ce ++ l2).length cx) (ce ++ l2) ∧ Nw w (.slice ax (ce ++ l2).length cx) ∧ Mod (fun _ => False) w w1) := ⟨hr, hvn, hM1⟩
  have HV : Hid (∀ g, (Value.slice ax (ce ++ l2).length cx).ownBlock = some g → g ≠ w.heap.size ∧ g ≠ w.heap.size + 1) := hvn2
  clear hr hvn hM1 hM hm1 hn1 hvn2 hB1 hs H2
  rw [← HN.out] at HR HV ⊢
  have HS1 : Hid (Bk w1 w.heap.size 26 #[.int .i64 rs, .int .i64 rr, .int .i64 mm, .int .i64 (hp + 1), .slice cao ce.length ccap] ∧ Bk w1 (w.heap.size + 1) 26 #[.int .i64 0, .int .i64 0, .int .i64 0, .int .i64 0, .slice none 0 0]) := ⟨hb1, hb2⟩
  have a4 := hb1.cellv (j := 4) rfl
  have f4 := hb1.frz 4
  clear hb1 hb2
  go_upto_region 3 with fail
  have hmA : Mod (fun k => k = w.heap.size) w1 (w1.setCell ⟨w.heap.size, 4, none⟩ (.slice ax n cx)) := (Mod.refl _ w1).setCell _ _ (.inl rfl)
  have hbA := HS1.out.1.set 4 (.slice ax n cx)
  have hbB := HS1.out.2.mod hmA (by omega)
  simp only [List.setIfInBounds_toArray, List.set_cons_succ, List.set_cons_zero] at hbA
  go_wp2_with (first | (refine wpList_load_row infoC Try.underlying26 rfl rfl _ rfl w.heap.size rfl hbA rfl ?_) | (refine wpList_store_row infoC rfl rfl _ _ rfl (w.heap.size + 1) #[.int .i64 rs, .int .i64 rr, .int .i64 mm, .int .i64 (hp + 1), .slice ax n cx] rfl rfl hbB rfl rfl rfl ?_; intro wF hBF hMF))
  refine bodyPost_ret (resT infoC Try.underlying26 rfl rfl rfl hBF rfl) rfl ⟨ax, cx, rfl, ?_, ?_, HR.out.2.1⟩
  · exact (HR.out.1.mod hmA fun g hg e => (HV.out g hg).1 e).mod hMF fun g hg e => (HV.out g hg).2 e
  · exact (HR.out.2.2.trans hmA (V := fun _ => False) (fun _ _ h => h) (fun i hi h => by omega)).trans hMF (V := fun _ => False) (fun _ _ h => h) (fun i hi h => by omega)
end Go.Proofs.Ytlekmgjjjniomaa
