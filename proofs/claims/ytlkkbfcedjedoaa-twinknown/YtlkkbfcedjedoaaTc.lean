/- Contracts of twin's read and Open. Conditions: bytes of at most 2^47. -/
import Derived.Test.YtlkkbfcedjedoaaTn
namespace Go.Proofs.Ytlkkbfcedjedoaa
open Go.RowKit
/-- What read answers. -/
def RfPost (L : List Int) (r : Nat) (w : World) (e : Ending) (w' : World) : Prop := ∃ s l n ao m cap, e = .returned (.tuple #[.agg #[.int .i64 s, .int .i64 l, .int .i64 n, .slice ao m cap], .int .i64 (rfE L)]) ∧ Mod (fun x => x = r) w w' ∧
  (rfE L = 0 → s = rfN L 0 ∧ l = rfN L 1 ∧ n = rfN L 2 ∧ Own w' (.slice ao m cap) (rfB L) ∧ (∀ g, (Value.slice ao m cap).ownBlock = some g → w.heap.size ≤ g) ∧ ∃ v', Rd w' r v' (rfR L))
set_option maxRecDepth 100000 in
set_option maxHeartbeats 2000000 in
theorem tread_any (r : Nat) (v : Value) (L : List Int) (w : World) (h : Rd w r v L) (hv : ∀ g, v.ownBlock = some g → g < w.heap.size) (hL : L.length ≤ 140737488355328) :
    Calls Try.prog 45 #[.pointer (some ⟨r, 0, none⟩)] w (RfPost L r w) := by
  have hr := lt_of_block h.blk
  have hM := ((((Mod.refl (fun x => x = r) w).alloc (.cells #[.int .i64 0, .int .i64 0, .int .i64 0, .slice none 0 0] 24)).alloc (.cells #[.int .i64 0, .int .i64 0, .int .i64 0, .slice none 0 0] 24)).alloc (.cells #[.pointer (some ⟨w.heap.size + 1, 0, none⟩), .pointer (some ⟨w.heap.size + 1, 1, none⟩), .pointer (some ⟨w.heap.size + 1, 2, none⟩)] 115))
  have hB0 := ((Bk.new w #[.int .i64 0, .int .i64 0, .int .i64 0, .slice none 0 0] 24).mod ((Mod.refl (fun _ => False) _).alloc (.cells #[.int .i64 0, .int .i64 0, .int .i64 0, .slice none 0 0] 24)) (fun h => h)).mod ((Mod.refl (fun _ => False) _).alloc (.cells #[.pointer (some ⟨w.heap.size + 1, 0, none⟩), .pointer (some ⟨w.heap.size + 1, 1, none⟩), .pointer (some ⟨w.heap.size + 1, 2, none⟩)] 115)) (fun h => h)
  have hB1 := (Bk.new2 w (.cells #[.int .i64 0, .int .i64 0, .int .i64 0, .slice none 0 0] 24) #[.int .i64 0, .int .i64 0, .int .i64 0, .slice none 0 0] 24).mod ((Mod.refl (fun _ => False) _).alloc (.cells #[.pointer (some ⟨w.heap.size + 1, 0, none⟩), .pointer (some ⟨w.heap.size + 1, 1, none⟩), .pointer (some ⟨w.heap.size + 1, 2, none⟩)] 115)) (fun h => h)
  have hB2 := Bk.new2 (w.alloc (.cells #[.int .i64 0, .int .i64 0, .int .i64 0, .slice none 0 0] 24)) (.cells #[.int .i64 0, .int .i64 0, .int .i64 0, .slice none 0 0] 24) #[.pointer (some ⟨w.heap.size + 1, 0, none⟩), .pointer (some ⟨w.heap.size + 1, 1, none⟩), .pointer (some ⟨w.heap.size + 1, 2, none⟩)] 115
  rw [show (w.alloc (.cells #[.int .i64 0, .int .i64 0, .int .i64 0, .slice none 0 0] 24)).heap.size = w.heap.size + 1 by simp] at hB2
  have hR : Rd (((w.alloc (.cells #[.int .i64 0, .int .i64 0, .int .i64 0, .slice none 0 0] 24)).alloc (.cells #[.int .i64 0, .int .i64 0, .int .i64 0, .slice none 0 0] 24)).alloc (.cells #[.pointer (some ⟨w.heap.size + 1, 0, none⟩), .pointer (some ⟨w.heap.size + 1, 1, none⟩), .pointer (some ⟨w.heap.size + 1, 2, none⟩)] 115)) r v L := h.mod ((((Mod.refl (fun _ => False) w).alloc _).alloc _).alloc _) (fun h => h) (fun _ _ h => h)
  clear h
  go_enter Try.func45, Try.ntmps45
  go_wp2
  generalize (((w.alloc (.cells #[.int .i64 0, .int .i64 0, .int .i64 0, .slice none 0 0] 24)).alloc (.cells #[.int .i64 0, .int .i64 0, .int .i64 0, .slice none 0 0] 24)).alloc (.cells #[.pointer (some ⟨w.heap.size + 1, 0, none⟩), .pointer (some ⟨w.heap.size + 1, 1, none⟩), .pointer (some ⟨w.heap.size + 1, 2, none⟩)] 115)) = W at *
  go_loopw [14] (fun i wr => ∃ (k : Nat) (v' : Value), i = .int .i64 (k : Int) ∧ k ≤ 3 ∧ Hid (rde k L = 0) ∧ Rd wr r v' (rdr k L) ∧ (∀ g, v'.ownBlock = some g → g < w.heap.size) ∧ Mod (fun x => x = r) w wr ∧ Bk wr w.heap.size 24 #[.int .i64 0, .int .i64 0, .int .i64 0, .slice none 0 0] ∧ Bk wr (w.heap.size + 1) 24 #[.int .i64 ((rdv k L).getD 0 0), .int .i64 ((rdv k L).getD 1 0), .int .i64 ((rdv k L).getD 2 0), .slice none 0 0] ∧ Bk wr (w.heap.size + 1 + 1) 115 #[.pointer (some ⟨w.heap.size + 1, 0, none⟩), .pointer (some ⟨w.heap.size + 1, 1, none⟩), .pointer (some ⟨w.heap.size + 1, 2, none⟩)]) (fun i _ => 3 - (intOf i).toNat)
  case atStart => exact ⟨0, v, rfl, by omega, rfl, hR, hv, hM, hB0, hB1, hB2⟩
  case round =>
    obtain ⟨k, v', rfl, hk, hE, hR', hv', hM', hB0', hB1', hB2'⟩ := hrel
    clear hR hM hB0 hB1 hB2 hv
    by_cases hlt3 : k < 3
    · have G := Get_any r v' (rdr k L) wr hR'
      have hi : (k : Int) < 3 := by omega
      have hlen : (rdv k L).length = k := rdv_len k L hE.out
      have ck : wr.cell? ⟨w.heap.size + 1 + 1, k, none⟩ = some (.pointer (some ⟨w.heap.size + 1, k, none⟩)) := by
        rw [hB2'.cell]
        rcases (by omega : k = 0 ∨ k = 1 ∨ k = 2) with rfl | rfl | rfl <;> rfl
      have hSt := rd_stop k (2 - k) L hE.out
      rw [show k + (2 - k + 1) = 3 by omega] at hSt
      have hOn := rd_one k L hE.out
      generalize hx : (num 0 0 (rdr k L)).1 = x at G hOn
      generalize he : (num 0 0 (rdr k L)).2.2 = er at G hOn hSt
      generalize hq : (rdr k L).drop (num 0 0 (rdr k L)).2.1.toNat = Rk at G hOn
      -- the block with the number put in
      have hset : ∀ w1, Bk w1 (w.heap.size + 1) 24 #[.int .i64 ((rdv k L).getD 0 0), .int .i64 ((rdv k L).getD 1 0), .int .i64 ((rdv k L).getD 2 0), .slice none 0 0] → Bk (w1.setCell ⟨w.heap.size + 1, k, none⟩ (.int .i64 x)) (w.heap.size + 1) 24 #[.int .i64 ((rdv k L ++ [x]).getD 0 0), .int .i64 ((rdv k L ++ [x]).getD 1 0), .int .i64 ((rdv k L ++ [x]).getD 2 0), .slice none 0 0] ∧ w1.frozen? ⟨w.heap.size + 1, k, none⟩ = false ∧ ∃ y, w1.cell? ⟨w.heap.size + 1, k, none⟩ = some (.int .i64 y) := by
        intro w1 h1
        have h2 := h1.set k (.int .i64 x)
        have h3 := h1.frz k
        have h4 := h1.cell k
        revert hlen h1 h2 h3 h4
        generalize rdv k L = l
        intro hlen h1 h2 h3 h4
        rcases (by omega : k = 0 ∨ k = 1 ∨ k = 2) with rfl | rfl | rfl
        · match l, hlen with
          | [], _ => exact ⟨h2, h3, _, h4⟩
        · match l, hlen with
          | [a], _ => exact ⟨h2, h3, _, h4⟩
        · match l, hlen with
          | [a, b], _ => exact ⟨h2, h3, _, h4⟩
      clear hx hq hlen
      go_wp2_with (fail)
      refine G.mono ?_
      rintro e w1 ⟨rfl, v1, hR1, hm1, hg1⟩
      have hB0 := hB0'.mod hm1 (by omega)
      have hB2 := hB2'.mod hm1 (by omega)
      obtain ⟨hN, hfz, y, hy⟩ := hset w1 (hB1'.mod hm1 (by omega))
      have hM1 := hM'.trans hm1 (V := fun x => x = r) (fun _ _ h => h) (fun _ _ h => h)
      have hM2 := hM1.setCell ⟨w.heap.size + 1, k, none⟩ (.int .i64 x) (.inr (by simp))
      have hmS := (Mod.refl (fun i => i = w.heap.size + 1) w1).setCell ⟨w.heap.size + 1, k, none⟩ (.int .i64 x) (.inl rfl)
      have hR2 := hR1.mod hmS (by omega) (fun g hg => by have := hv' g (hg1 g hg); omega)
      have hB0s := hB0.mod hmS (by omega)
      have hB2s := hB2.mod hmS (by omega)
      clear hset G hR' hB0' hB1' hB2' ck hm1 hR1 hM1 hB0 hB2 hM'
      by_cases h0 : er = 0
      · subst h0
        obtain ⟨o1, o2, o3⟩ := hOn rfl
        rw [← o2] at hN
        rw [← o3] at hR2
        have HE : Hid (rde (k + 1) L = 0) := o1
        clear o1 o2 o3 hOn hSt he
        go_wp2
        go_roundw
        case rel => exact ⟨k + 1, v1, by go_num, by omega, HE, hR2, fun g hg => hv' g (hg1 g hg), hM2, hB0s, hN, hB2s⟩
        case measure => simp [intOf]; omega
      · have hE3 := hSt h0
        have HE : Hid (rfE L = er) := by show rfE L = er; unfold rfE; rw [if_pos (by rw [hE3]; exact h0), hE3]
        have hne : (er != 0) = true := by simp [h0]
        have hz : ¬ er = 0 := h0
        clear hSt hOn hE3 he h0
        go_wp2_with (refine wpList_store_row infoFr rfl rfl _ _ rfl w.heap.size #[.int .i64 0, .int .i64 0, .int .i64 0, .slice none 0 0] rfl rfl hB0s rfl rfl rfl ?_; intro wF hBF hMF)
        refine bodyPost_ret (resT2 infoFr Try.underlying24 rfl rfl rfl rfl hBF rfl) rfl ⟨0, 0, 0, none, 0, 0, by rw [HE.out]; rfl, hM2.trans hMF (fun _ _ h => h) (fun i hi h => by omega), fun h => absurd (HE.out ▸ h) hz⟩
    · obtain rfl : k = 3 := by omega
      have hlen : (rdr 3 L).length ≤ 140737488355328 := by have := rdr_len 3 L hE.out; omega
      have hE3 : rfE L = octE 512 (rdr 3 L) := by unfold rfE; rw [if_neg (by simp [hE.out])]
      by_cases h0 : octE 512 (rdr 3 L) = 0
      · have G := Octets_ok r v' (rdr 3 L) 512 wr hR' hlen h0
        have HE : Hid (rfE L = 0) := hE3.trans h0
        clear hE3 h0 hR' hlen
        go_wp2_with (fail)
        refine G.mono ?_
        rintro e w1 ⟨v1, v2, rfl, ho1, hR1, hm1, hg1, hg2⟩
        have hB0 := hB0'.mod hm1 (by omega)
        have hB1 := (hB1'.mod hm1 (by omega)).set 3 v1
        have hf := (hB1'.mod hm1 (by omega)).frz 3
        have hc := (hB1'.mod hm1 (by omega)).cellv (j := 3) rfl
        have hmS := (Mod.refl (fun i => i = w.heap.size + 1) w1).setCell ⟨w.heap.size + 1, 3, none⟩ v1 (.inl rfl)
        have hB0s := hB0.mod hmS (by omega)
        have hlt1 := hB1'.lt
        have ho2 := ho1.mod hmS (fun g hg e => by have := hg1 g hg; omega)
        have hR2 := hR1.mod hmS (by omega) (fun g hg e => by have := hv' g (hg2 g hg); omega)
        have hM1 := (hM'.trans hm1 (V := fun x => x = r) (fun _ _ h => h) (fun _ _ h => h)).setCell ⟨w.heap.size + 1, 3, none⟩ v1 (.inr (by simp))
        have hsz := hM'.size
        obtain ⟨ao1, cap1, hsh⟩ := ho1.shape
        have HB : Hid (rfB L = obody (rdr 3 L)) := rfl
        have HR : Hid (rfR L = orest (rdr 3 L)) := rfl
        have e1 : (rdr 3 L).drop ((num 0 0 (rdr 3 L)).2.1.toNat + (num 0 0 (rdr 3 L)).1.toNat) = rfR L := rfl
        have e2 : ((rdr 3 L).drop (num 0 0 (rdr 3 L)).2.1.toNat).take (num 0 0 (rdr 3 L)).1.toNat = rfB L := rfl
        rw [e1] at hR2
        rw [e2] at ho2 hsh
        clear e1 e2 G hB1' hB0' hB2' hm1 hR1 ho1 hB0 hM' hmS
        generalize hrB : rfB L = RB at *
        generalize hrR : rfR L = RR at *
        subst hsh
        go_wp2_with (first | refine wpList_load_row infoFr Try.underlying24 rfl rfl _ rfl (w.heap.size + 1) rfl hB1 rfl ?_ | (refine wpList_store_row infoFr rfl rfl _ _ rfl w.heap.size _ rfl rfl hB0s rfl rfl rfl ?_; intro wF hBF hMF))
        refine bodyPost_ret (resT2 infoFr Try.underlying24 rfl rfl rfl rfl hBF rfl) rfl ⟨_, _, _, _, _, _, by rw [HE.out]; rfl, hM1.trans hMF (fun _ _ h => h) (fun i hi h => by omega), fun _ => ⟨by simp [rfN], by simp [rfN], by simp [rfN], ?_, fun g hg => Nat.le_trans hsz (hg1 g hg), v2, ?_⟩⟩
        · rw [hrB]
          exact ho2.mod hMF (fun g hg e => by have := hg1 g hg; omega)
        · rw [hrR]
          exact hR2.mod hMF (by omega) (fun g hg e => by have := hv' g (hg2 g hg); omega)
      · have G := Octets_bad r v' (rdr 3 L) 512 wr hR' h0
        have HE : Hid (rfE L = octE 512 (rdr 3 L)) := hE3
        have hc := hB1'.cellv (j := 3) rfl
        have hf := hB1'.frz 3
        have hB1 := hB1'.set 3 (.slice none 0 0)
        have hmS := (Mod.refl (fun i => i = w.heap.size + 1) wr).setCell ⟨w.heap.size + 1, 3, none⟩ (.slice none 0 0) (.inl rfl)
        have hB0s := hB0'.mod hmS (by omega)
        have hM1 := hM'.setCell ⟨w.heap.size + 1, 3, none⟩ (.slice none 0 0) (.inr (by simp))
        generalize octE 512 (rdr 3 L) = er at G HE h0
        have hz : ¬ er = 0 := h0
        clear hE3 h0 hR' hlen hB2' hmS
        go_wp2_with (fail)
        refine G.mono ?_
        rintro e w1 ⟨rfl, rfl⟩
        go_wp2_with (first | refine wpList_load_row infoFr Try.underlying24 rfl rfl _ rfl (w.heap.size + 1) rfl hB1 rfl ?_ | (refine wpList_store_row infoFr rfl rfl _ _ rfl w.heap.size _ rfl rfl hB0s rfl rfl rfl ?_; intro wF hBF hMF))
        refine bodyPost_ret (resT2 infoFr Try.underlying24 rfl rfl rfl rfl hBF rfl) rfl ⟨_, _, _, _, _, _, by rw [HE.out]; rfl, hM1.trans hMF (fun _ _ h => h) (fun i hi h => by omega), fun h => absurd (HE.out ▸ h) hz⟩
/-- What Open answers. -/
def OpPost (b : List Int) (w : World) (e : Ending) (w' : World) : Prop := ∃ bv, e = .returned (.tuple #[.agg #[.int .i64 (opN b 0), .int .i64 (opN b 1), .int .i64 (opN b 2), bv], .int .i64 (opE b)]) ∧ Mod (fun _ => False) w w' ∧ Own w' bv (opB b) ∧ (∀ g, bv.ownBlock = some g → w.heap.size ≤ g)
theorem op_bad {b : List Int} {er : Int} (h : opE b = er) (hz : ¬ er = 0) : (∀ i, opN b i = 0) ∧ opB b = [] := by
  have : ¬ opE b = 0 := by rw [h]; exact hz
  exact ⟨fun i => by simp [opN, this], by simp [opB, this]⟩
set_option maxRecDepth 100000 in
set_option maxHeartbeats 2000000 in
theorem tOpen_any (v : Value) (b : List Int) (w : World) (hs : Sl w v b) (hb : b.length ≤ 140737488355328) : Calls Try.prog 15 #[v] w (OpPost b w) := by
  have hs0 := hs.mod ((Mod.refl (fun _ => False) w).alloc (.cells #[.int .i64 0, .int .i64 0, .int .i64 0, .slice none 0 0] 24)) (fun _ _ h => h)
  have hB0 := Bk.new w #[.int .i64 0, .int .i64 0, .int .i64 0, .slice none 0 0] 24
  have hM0 := (Mod.refl (fun _ => False) w).alloc (.cells #[.int .i64 0, .int .i64 0, .int .i64 0, .slice none 0 0] 24)
  have G := Sm.Open_any v b _ hs0 hb
  have hrng := hs.rng
  have hlD := openD_len b
  have hmD := openD_mem b
  clear hs hs0
  go_enter Try.func15, Try.ntmps15
  go_wp2_with (fail)
  refine G.mono ?_
  rintro e w1 ⟨v1, rfl, ho1, hm1, hg1⟩
  have hB1 := hB0.mod hm1 (fun h => h)
  have hM1 := hM0.trans hm1 (V := fun _ => False) (fun _ _ h => h) (fun _ _ h => h)
  have hg1' : ∀ g, v1.ownBlock = some g → w.heap.size < g := fun g hg => by have := hg1 g hg; simp at this; omega
  clear G hB0 hM0 hm1 hg1
  by_cases h1 : Sm.openE b = 0
  · rw [h1]
    have hs1 : Sl w1 v1 (Sm.openD b) := ho1.sl (fun c hc => hrng c (hmD c hc))
    have hDe : Hid (opE b = if rfE (Sm.openD b) ≠ 0 then rfE (Sm.openD b) else if 0 < (rfR (Sm.openD b)).length ∨ okF (rfN (Sm.openD b) 0) (rfN (Sm.openD b) 1) (rfN (Sm.openD b) 2) (rfB (Sm.openD b)).length = false then 4 else 0) := by
      show _ = _
      unfold opE
      rw [if_neg (by simp [h1])]
    have hDN : Hid (opE b = 0 → opN b 0 = rfN (Sm.openD b) 0 ∧ opN b 1 = rfN (Sm.openD b) 1 ∧ opN b 2 = rfN (Sm.openD b) 2 ∧ opB b = rfB (Sm.openD b)) := fun h => by simp [opN, opB, h]
    have hl2 : (Sm.openD b).length ≤ 140737488355328 := by omega
    generalize Sm.openD b = D at hs1 hDe hDN hl2
    clear h1 ho1 hlD hmD hrng
    go_wp2_with (fail)
    refine (New_any v1 D w1 hs1 hl2).mono ?_
    rintro e w2 ⟨r, v2, rfl, hR2, hm2, hr2, hr2', hg2⟩
    have hB2 := hB1.mod hm2 (fun h => h)
    have hM2 := hM1.trans hm2 (V := fun _ => False) (fun _ _ h => h) (fun _ _ h => h)
    have hlt := hB1.lt
    clear hB1 hM1 hs1 hm2
    go_wp2_with (fail)
    refine (tread_any r v2 D w2 hR2 (fun g hg => (hg2 g hg).2) hl2).mono ?_
    rintro e w3 ⟨s, l, n, ao, m, cap, rfl, hm3, h3⟩
    have hB3 := hB2.mod hm3 (by omega)
    have hM3 := hM2.trans hm3 (V := fun _ => False) (fun _ _ h => h) (fun i hi h => by omega)
    clear hB2 hM2 hR2
    by_cases h0 : rfE D = 0
    · obtain ⟨rfl, rfl, rfl, ho, hgo, v3, hR3⟩ := h3 h0
      rw [h0]
      obtain ⟨ao', cap', hsh⟩ := ho.shape
      simp only [Value.slice.injEq] at hsh
      replace hsh := hsh.2.1
      have HD : Hid (opE b = if 0 < (rfR D).length ∨ okF (rfN D 0) (rfN D 1) (rfN D 2) (rfB D).length = false then 4 else 0) := by show _ = _; rw [hDe.out, if_neg (by simp [h0])]
      have hgo' : ∀ g, (Value.slice ao m cap).ownBlock = some g → w.heap.size < g := fun g hg => by have := hgo g hg; omega
      generalize rfN D 0 = s at *
      generalize rfN D 1 = l at *
      generalize rfN D 2 = n at *
      generalize rfB D = RB at *
      generalize rfR D = RR at *
      subst hsh
      have hm4 := (Mod.refl (fun _ => False) w3).alloc (.cells #[.int .i64 s, .int .i64 l, .int .i64 n, .slice ao RB.length cap] 24)
      have hB4 := hB3.mod hm4 (fun h => h)
      have hR4 := hR3.mod hm4 (fun h => h) (fun _ _ h => h)
      have ho4 := ho.mod hm4 (fun _ _ h => h)
      have hM4 := hM3.trans hm4 (V := fun _ => False) (fun _ _ h => h) (fun _ _ h => h)
      have hF4 := Bk.new w3 #[.int .i64 s, .int .i64 l, .int .i64 n, .slice ao RB.length cap] 24
      have hlt3 := hB3.lt
      have HL := Left_any r v3 RR _ hR4
      have HM := mayBe_any s l n ao RB.length cap
      clear h3 hm3 hB3 hM3 hR3 ho hDe h0 hm4
      by_cases hlen : 0 < RR.length
      · have HE : Hid (opE b = 4) := by show _ = _; rw [HD.out, if_pos (.inl hlen)]
        have hi : 0 < (RR.length : Int) := by omega
        obtain ⟨hN0, hB0⟩ := op_bad HE.out (by decide)
        have HN : Hid (∀ i, opN b i = 0) := hN0
        have HB : Hid (opB b = []) := hB0
        clear hN0 hB0 HD hDN
        go_wp2_with (first | (go_at_call 46; refine HL.mono ?_; rintro e w4 ⟨rfl, rfl⟩) | (refine wpList_store_row infoFr rfl rfl _ _ rfl w.heap.size _ rfl rfl hB4 rfl rfl rfl ?_; intro wF hBF hMF))
        refine bodyPost_ret (resT2 infoFr Try.underlying24 rfl rfl rfl rfl hBF rfl) rfl ⟨.slice none 0 0, by rw [HE.out, HN.out, HN.out, HN.out]; rfl, hM4.trans hMF (fun _ _ h => h) (fun i hi h => by omega), by rw [HB.out]; exact Own.nil _, by intro g hg; simp [Value.ownBlock] at hg⟩
      · have hz : RR.length = 0 := by omega
        have hi : ¬ 0 < (RR.length : Int) := by omega
        cases hf : okF s l n RB.length with
        | false =>
          have HE : Hid (opE b = 4) := by show _ = _; rw [HD.out, if_pos (.inr hf)]
          obtain ⟨hN0, hB0⟩ := op_bad HE.out (by decide)
          have HN : Hid (∀ i, opN b i = 0) := hN0
          have HB : Hid (opB b = []) := hB0
          rw [hf] at HM
          clear hN0 hB0 HD hDN hf hz
          go_wp2_with (fail)
          refine HL.mono ?_
          rintro e w4 ⟨rfl, rfl⟩
          go_wp2_with (fail)
          refine (HM _).mono ?_
          rintro e w5 ⟨rfl, hm5⟩
          have hB5 := hB4.mod hm5 (fun h => h)
          have hM5 := hM4.trans hm5 (V := fun _ => False) (fun _ _ h => h) (fun _ _ h => h)
          go_wp2_with (refine wpList_store_row infoFr rfl rfl _ _ rfl w.heap.size _ rfl rfl hB5 rfl rfl rfl ?_; intro wF hBF hMF)
          refine bodyPost_ret (resT2 infoFr Try.underlying24 rfl rfl rfl rfl hBF rfl) rfl ⟨.slice none 0 0, by rw [HE.out, HN.out, HN.out, HN.out]; rfl, hM5.trans hMF (fun _ _ h => h) (fun i hi h => by omega), by rw [HB.out]; exact Own.nil _, by intro g hg; simp [Value.ownBlock] at hg⟩
        | true =>
          have HE : Hid (opE b = 0) := by show _ = _; rw [HD.out, if_neg (by rw [hf]; rintro (h | h); omega; cases h)]
          obtain ⟨n0, n1, n2, nb⟩ := hDN.out HE.out
          have HN : Hid (opN b 0 = s ∧ opN b 1 = l ∧ opN b 2 = n ∧ opB b = RB) := ⟨n0, n1, n2, nb⟩
          rw [hf] at HM
          clear n0 n1 n2 nb HD hDN hf hz
          go_wp2_with (fail)
          refine HL.mono ?_
          rintro e w4 ⟨rfl, rfl⟩
          go_wp2_with (fail)
          refine (HM _).mono ?_
          rintro e w5 ⟨rfl, hm5⟩
          have hB5 := hB4.mod hm5 (fun h => h)
          have hF5 := hF4.mod hm5 (fun h => h)
          have ho5 := ho4.mod hm5 (fun _ _ h => h)
          have hM5 := hM4.trans hm5 (V := fun _ => False) (fun _ _ h => h) (fun _ _ h => h)
          go_wp2_with (first | refine wpList_load_row infoFr Try.underlying24 rfl rfl _ rfl w3.heap.size rfl hF5 rfl ?_ | (refine wpList_store_row infoFr rfl rfl _ _ rfl w.heap.size _ rfl rfl hB5 rfl rfl rfl ?_; intro wF hBF hMF))
          refine bodyPost_ret (resT2 infoFr Try.underlying24 rfl rfl rfl rfl hBF rfl) rfl ⟨.slice ao RB.length cap, by rw [HE.out, HN.out.1, HN.out.2.1, HN.out.2.2.1]; rfl, hM5.trans hMF (fun _ _ h => h) (fun i hi h => by omega), by rw [HN.out.2.2.2]; exact ho5.mod hMF (fun g hg e => by have := hgo' g hg; omega), fun g hg => by have := hgo' g hg; omega⟩
    · have HE : Hid (opE b = rfE D) := by show _ = _; rw [hDe.out, if_pos h0]
      generalize rfE D = er at HE h0
      obtain ⟨hN0, hB0⟩ := op_bad HE.out h0
      have HN : Hid (∀ i, opN b i = 0) := hN0
      have HB : Hid (opB b = []) := hB0
      have hz : ¬ er = 0 := h0
      have hm4 := (Mod.refl (fun _ => False) w3).alloc (.cells #[.int .i64 s, .int .i64 l, .int .i64 n, .slice ao m cap] 24)
      have hB4 := hB3.mod hm4 (fun h => h)
      have hM4 := hM3.trans hm4 (V := fun _ => False) (fun _ _ h => h) (fun _ _ h => h)
      clear hN0 hB0 h0 hDe hDN h3
      go_wp2_with (refine wpList_store_row infoFr rfl rfl _ _ rfl w.heap.size _ rfl rfl hB4 rfl rfl rfl ?_; intro wF hBF hMF)
      refine bodyPost_ret (resT2 infoFr Try.underlying24 rfl rfl rfl rfl hBF rfl) rfl ⟨.slice none 0 0, by rw [HE.out, HN.out, HN.out, HN.out]; rfl, hM4.trans hMF (fun _ _ h => h) (fun i hi h => by omega), by rw [HB.out]; exact Own.nil _, by intro g hg; simp [Value.ownBlock] at hg⟩
  · have HE : Hid (opE b = Sm.openE b) := by show _ = _; unfold opE; rw [if_pos h1]
    generalize Sm.openE b = er at HE h1
    obtain ⟨hN0, hB0⟩ := op_bad HE.out h1
    have HN : Hid (∀ i, opN b i = 0) := hN0
    have HB : Hid (opB b = []) := hB0
    have hz : ¬ er = 0 := h1
    clear hN0 hB0 h1
    go_wp2_with (refine wpList_store_row infoFr rfl rfl _ _ rfl w.heap.size _ rfl rfl hB1 rfl rfl rfl ?_; intro wF hBF hMF)
    refine bodyPost_ret (resT2 infoFr Try.underlying24 rfl rfl rfl rfl hBF rfl) rfl ⟨.slice none 0 0, by rw [HE.out, HN.out, HN.out, HN.out]; rfl, hM1.trans hMF (fun _ _ h => h) (fun i hi h => by omega), by rw [HB.out]; exact Own.nil _, by intro g hg; simp [Value.ownBlock] at hg⟩
end Go.Proofs.Ytlkkbfcedjedoaa
