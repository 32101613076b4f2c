/- Contracts of packet's coder that reads: ring numbers, entries. Conditions: blocks apart. Contracts of packet's coder that reads: a message. Conditions: blocks apart; bytes of at most 2^47. -/
import Derived.Test.YtajhpnfpjickbaaK16
import Derived.Test.YtajhpnfpjickbaaK43
namespace Go.Proofs.Ytajhpnfpjickbaa
open Go.RowKit
set_option maxRecDepth 100000 in
set_option maxHeartbeats 1000000 in
theorem ring_c (w : World) (q pr b : Nat) (t : TypeId) (xs : Array Value) (off n : Nat) (v : Value) (l : List Int) (j : Nat) (xs0 : Array Value) (v0 : Value) (l0 d0 : List Int) (E0 : Int) (w0 : World) (h : Nst w q pr b t xs off n v l j xs0 v0 l0 d0 E0 w0) (hj : j + 2 ≤ n) (hof : off + n ≤ xs.size) (hx : ∀ k, k < n → ∃ x, xs[off + k]? = some (.int .i64 x)) (hn : q ≠ pr ∧ b ≠ pr ∧ b ≠ q) (hv : v.ownBlock ≠ some q ∧ v.ownBlock ≠ some b) :
    Calls Try.prog 107 #[.pointer (some ⟨q, 0, none⟩), .pointer (some ⟨b, off + j, none⟩)] w0 fun e w' => e = .returned (.tuple #[]) ∧ ∃ xs' v' l' d E, Nst w q pr b t xs off n v l (j + 2) xs' v' l' d E w' := by
  have hA : Mod (fun _ => False) w0 (w0.alloc (.cells #[.pointer (some ⟨b, off + j, none⟩), .pointer (some ⟨b, off + j + 1, none⟩)] 131)).drew := ((Mod.refl _ w0).alloc _).drew
  have hC : (w0.alloc (.cells #[.pointer (some ⟨b, off + j, none⟩), .pointer (some ⟨b, off + j + 1, none⟩)] 131)).drew.heap[w0.heap.size]? = some (.cells #[.pointer (some ⟨b, off + j, none⟩), .pointer (some ⟨b, off + j + 1, none⟩)] 131 (0, 0)) := heap_alloc_new w0 (.cells #[.pointer (some ⟨b, off + j, none⟩), .pointer (some ⟨b, off + j + 1, none⟩)] 131)
  have hN := h.world hA
  have hz : q < w0.heap.size ∧ pr < w0.heap.size ∧ b < w0.heap.size := ⟨lt_of_block h.co.blk, lt_of_block h.rd.blk, h.bk.lt⟩
  have HN := numbers_c 2 w0.heap.size 2 w q pr b t xs off n v l j _ _ _ _ _ _ hN (by omega) hof hx hn hv (fun k hk => by
    unfold World.cell?
    dsimp only
    rw [hC]
    match k, hk with
    | 0, _ => rfl
    | 1, _ => rfl
    | k + 2, hk => omega) ⟨by omega, by omega, by omega⟩ (by omega)
  clear hC
  clear h hN hx
  go_enter Try.func107, Try.ntmps107
  go_wp2_with (fail)
  go_region_held3 (fun _ => True) (trivial) ((go_at_call 105; refine HN.mono ?_; rintro e w1 ⟨rfl, xs1, v1, l1, d1, E1, h1⟩))
  go_wp2
  go_end0
  exact ⟨rfl, xs1, v1, l1, d1, E1, h1⟩
set_option maxRecDepth 100000 in
set_option maxHeartbeats 1000000 in
theorem entry_c (w : World) (q pr b : Nat) (t : TypeId) (xs : Array Value) (off n : Nat) (v : Value) (l : List Int) (j : Nat) (xs0 : Array Value) (v0 : Value) (l0 d0 : List Int) (E0 : Int) (w0 : World) (h : Nst w q pr b t xs off n v l j xs0 v0 l0 d0 E0 w0) (hj : j + 6 ≤ n) (hof : off + n ≤ xs.size) (hx : ∀ k, k < n → ∃ x, xs[off + k]? = some (.int .i64 x)) (hn : q ≠ pr ∧ b ≠ pr ∧ b ≠ q) (hv : v.ownBlock ≠ some q ∧ v.ownBlock ≠ some b) :
    Calls Try.prog 131 #[.pointer (some ⟨q, 0, none⟩), .pointer (some ⟨b, off + j, none⟩)] w0 fun e w' => e = .returned (.tuple #[]) ∧ ∃ xs' v' l' d E, Nst w q pr b t xs off n v l (j + 6) xs' v' l' d E w' := by
  have H1 := numbers_step w q pr b t xs off n v l j xs0 v0 l0 d0 E0 w0 w0 h (Mod.refl _ _) (by omega) hof hx hn hv
  clear h
  go_enter Try.func131, Try.ntmps131
  go_wp2_with (fail)
  refine H1.mono ?_
  rintro e w1 ⟨rfl, xs1, v1, l1, d1, E1, _, h1⟩
  have H2 := ring_c w q pr b t xs off n v l (j + 1) xs1 v1 l1 d1 E1 w1 h1 (by omega) hof hx hn hv
  clear H1 h1
  go_wp2_with (fail)
  refine H2.mono ?_
  rintro e w2 ⟨rfl, xs2, v2, l2, d2, E2, h2⟩
  have hA : Mod (fun _ => False) w2 (w2.alloc (.cells #[.pointer (some ⟨b, off + j + 3, none⟩), .pointer (some ⟨b, off + j + 4, none⟩), .pointer (some ⟨b, off + j + 5, none⟩)] 131)).drew := ((Mod.refl _ w2).alloc _).drew
  have hC : (w2.alloc (.cells #[.pointer (some ⟨b, off + j + 3, none⟩), .pointer (some ⟨b, off + j + 4, none⟩), .pointer (some ⟨b, off + j + 5, none⟩)] 131)).drew.heap[w2.heap.size]? = some (.cells #[.pointer (some ⟨b, off + j + 3, none⟩), .pointer (some ⟨b, off + j + 4, none⟩), .pointer (some ⟨b, off + j + 5, none⟩)] 131 (0, 0)) := heap_alloc_new w2 (.cells #[.pointer (some ⟨b, off + j + 3, none⟩), .pointer (some ⟨b, off + j + 4, none⟩), .pointer (some ⟨b, off + j + 5, none⟩)] 131)
  have hN := h2.world hA
  have hz : q < w2.heap.size ∧ pr < w2.heap.size ∧ b < w2.heap.size := ⟨lt_of_block h2.co.blk, lt_of_block h2.rd.blk, h2.bk.lt⟩
  have HN := numbers_c 3 w2.heap.size 3 w q pr b t xs off n v l (j + 1 + 2) _ _ _ _ _ _ hN (by omega) hof hx hn hv (fun k hk => by
    unfold World.cell?
    dsimp only
    rw [hC]
    match k, hk with
    | 0, _ => rfl
    | 1, _ => rfl
    | 2, _ => rfl
    | k + 3, hk => omega) ⟨by omega, by omega, by omega⟩ (by omega)
  clear hC
  clear h2 hN hx H2
  go_wp2_with (fail)
  go_region_held3 (fun _ => True) (trivial) ((go_at_call 105; refine HN.mono ?_; rintro e w3 ⟨rfl, xs3, v3, l3, d3, E3, h3⟩))
  go_wp2
  go_end0
  exact ⟨rfl, xs3, v3, l3, d3, E3, h3⟩
end Go.Proofs.Ytajhpnfpjickbaa
namespace Go.Proofs.Ytajhpnfpjickbaa
open Go.RowKit
/-- What is wrong with the message that is read. -/
def rmE (l : List Int) : Int := if octE 512 l ≠ 0 then octE 512 l else unE (obody l)
/-- What readMessage answers. -/
def Rmq (pr : Nat) (v : Value) (l : List Int) (w : World) (e : Ending) (w' : World) : Prop := ∃ k o lf i p ps g s st rs rr sq bv, e = .returned (.tuple #[.agg #[.int .i64 k, .int .i64 o, .int .i64 lf, .int .i64 i, .int .i64 p, .int .i64 ps, .int .i64 g, .bool s, .int .i64 st, .int .i64 rs, .int .i64 rr, .int .i64 sq, bv], .int .i64 (rmE l)]) ∧ Mod (fun j => j = pr) w w' ∧
  (∃ v' l', Rd w' pr v' l' ∧ (∀ g, v'.ownBlock = some g → v.ownBlock = some g) ∧ (rmE l = 0 → l' = orest l)) ∧
  (rmE l = 0 → Ms.mk k o lf i p ps g s st rs rr sq (prM (obody l)).body = prM (obody l) ∧ Own w' bv (prM (obody l)).body ∧ (∀ g, bv.ownBlock = some g → w.heap.size ≤ g)) ∧ (rmE l ≠ 0 → bv = .slice none 0 0)
set_option maxRecDepth 100000 in
set_option maxHeartbeats 4000000 in
theorem readMessage_r (pr : Nat) (v : Value) (l : List Int) (w : World) (h : Rd w pr v l) (hb : l.length ≤ 140737488355328) (hv : ∀ g, v.ownBlock = some g → g < w.heap.size) : Calls Try.prog 145 #[.pointer (some ⟨pr, 0, none⟩)] w (Rmq pr v l w) := by
  have hprl := lt_of_block h.blk
  have hA : Mod (fun _ => False) w (w.alloc (.cells #[.int .i64 0, .int .i64 0, .int .i64 0, .int .i64 0, .int .i64 0, .int .i64 0, .int .i64 0, .bool false, .int .i64 0, .int .i64 0, .int .i64 0, .int .i64 0, .slice none 0 0] 28)) := (Mod.refl _ w).alloc _
  have hz0 := MB.new w 0 0 0 0 0 0 0 false 0 0 0 0 (.slice none 0 0)
  have hR := h.mod hA (fun h => h) (fun _ _ h => h)
  have hrng := h.sl.rng
  by_cases hO : octE 512 l = 0
  case neg =>
    have eE : rmE l = octE 512 l := by rw [rmE, if_pos hO]
    have HOc := Octets_bad pr v l 512 _ hR hO
    have hen : (octE 512 l != 0) = true := by simp [hO]
    unfold Rmq
    rw [eE]
    generalize octE 512 l = E at HOc hO hen ⊢
    have HX := True.intro
    clear eE h
    go_enter Try.func145, Try.ntmps145
    go_wp2_with (fail)
    refine HOc.mono ?_
    rintro e w1 ⟨rfl, hw1⟩
    rw [← hw1] at hz0 hA hR
    clear hw1 HOc
    have hfz := hz0.frz
    obtain ⟨a0, a1, a2, a3, a4, a5, a6, a7, a8, a9, a10, a11, a12⟩ := hz0.cells
    have hF := stm_mb hz0 0 0 0 0 0 0 0 false 0 0 0 0 (.slice none 0 0)
    have hMS := stm_mod w1 w.heap.size 0 0 0 0 0 0 0 false 0 0 0 0 (.slice none 0 0)
    have hMF : Mod (fun j => j = pr) w _ := hA.trans hMS (fun _ _ h => h.elim) (fun _ hi h => by omega)
    have hRF := hR.mod hMS (by omega) (fun g hg e => by have := hv g hg; omega)
    clear hz0 hA hR hMS
    go_wp2
    show bodyPost _ _ _ _ _ (stm w1 w.heap.size 0 0 0 0 0 0 0 false 0 0 0 0 (.slice none 0 0))
    generalize stm w1 w.heap.size 0 0 0 0 0 0 0 false 0 0 0 0 (.slice none 0 0) = wF at hF hMF hRF HX ⊢
    obtain ⟨d0, d1, d2, d3, d4, d5, d6, d7, d8, d9, d10, d11, d12⟩ := hF.cells
    exact bodyPost_ret (v := .tuple #[.agg #[.int .i64 0, .int .i64 0, .int .i64 0, .int .i64 0, .int .i64 0, .int .i64 0, .int .i64 0, .bool false, .int .i64 0, .int .i64 0, .int .i64 0, .int .i64 0, .slice none 0 0], .int .i64 E]) (by simp [results, Try.results145, go_sem, d0, d1, d2, d3, d4, d5, d6, d7, d8, d9, d10, d11, d12]) rfl ⟨0, 0, 0, 0, 0, 0, 0, false, 0, 0, 0, 0, .slice none 0 0, rfl, hMF, ⟨v, l, hRF, fun _ h => h, fun h => absurd h hO⟩, fun h => absurd h hO, fun _ => rfl⟩
  case pos =>
    have eE : rmE l = unE (obody l) := by rw [rmE, if_neg (by simp [hO])]
    have HOc := Octets_ok pr v l 512 _ hR hb hO
    have hbl : (obody l).length ≤ 140737488355328 := by unfold obody; simp; omega
    have hbr : ∀ c ∈ obody l, 0 ≤ c ∧ c ≤ 255 := fun c hc => hrng c (List.mem_of_mem_drop (List.mem_of_mem_take hc))
    unfold Rmq
    rw [eE]
    change Calls _ _ _ _ (fun e w' => ∃ v1 v2, e = .returned (.tuple #[v1, .int .i64 0]) ∧ Own w' v1 (obody l) ∧ Rd w' pr v2 (orest l) ∧ _) at HOc
    have HU := fun v1 w1 hs => Unpack_any v1 (obody l) w1 hs hbl
    unfold Unp at HU
    generalize hbo : obody l = b at HOc HU hbr ⊢
    generalize hre : orest l = re at HOc ⊢
    generalize unE b = E at HU ⊢
    clear h hO eE hbo hre hrng hR
    go_enter Try.func145, Try.ntmps145
    go_wp2_with (fail)
    refine HOc.mono ?_
    rintro e w1 ⟨v1, v2, rfl, ho, hr, hm1, hn1, hn2⟩
    have hz1 := hz0.mod hm1 (by omega)
    have hM1 : Mod (fun j => j = pr) w w1 := hA.trans hm1 (fun _ _ h => h.elim) (fun _ _ h => h)
    clear HOc
    go_wp2_with (fail)
    refine (HU v1 w1 (ho.sl hbr)).mono ?_
    rintro e w2 ⟨k, o, lf, i, p, ps, g, s, st, rs, rr, sq, bv, rfl, hm2, hok, hbad⟩
    obtain ⟨bao, bln, bcp, rfl⟩ : ∃ ao ln cp, bv = .slice ao ln cp := by
      by_cases h0 : E = 0
      · obtain ⟨ao, cp, e⟩ := (hok h0).2.1.shape
        exact ⟨ao, _, cp, e⟩
      · exact ⟨none, 0, 0, (hbad h0).2.2.2.2.2.2.2.2.2.2.2.2⟩
    have hz2 := hz1.mod hm2 (fun h => h)
    have hM2 : Mod (fun j => j = pr) w w2 := hM1.trans hm2 (fun _ _ h => h) (fun _ _ h => h.elim)
    have hr2 := hr.mod hm2 (fun h => h) (fun _ _ h => h)
    have hfz := hz2.frz
    obtain ⟨a0, a1, a2, a3, a4, a5, a6, a7, a8, a9, a10, a11, a12⟩ := hz2.cells
    have hF := stm_mb hz2 k o lf i p ps g s st rs rr sq (.slice bao bln bcp)
    have hMS := stm_mod w2 w.heap.size k o lf i p ps g s st rs rr sq (.slice bao bln bcp)
    have hMF : Mod (fun j => j = pr) w _ := hM2.trans hMS (fun _ _ h => h) (fun _ hi h => by omega)
    have hRF := hr2.mod hMS (by omega) (fun g hg e => by have := hv g (hn2 g hg); omega)
    have hs1 := hm1.size
    simp at hs1
    have hoF : E = 0 → Own (stm w2 w.heap.size k o lf i p ps g s st rs rr sq (.slice bao bln bcp)) (.slice bao bln bcp) (prM b).body := fun h0 => (hok h0).2.1.mod hMS (fun g hg e => by have := (hok h0).2.2 g hg; omega)
    have hQ : ∀ wF, Mod (fun j => j = pr) w wF → Rd wF pr v2 re → (E = 0 → Own wF (.slice bao bln bcp) (prM b).body) → Mod (fun j => j = pr) w wF ∧ (∃ v' l', Rd wF pr v' l' ∧ (∀ g, v'.ownBlock = some g → v.ownBlock = some g) ∧ (E = 0 → l' = re)) ∧
        (E = 0 → Ms.mk k o lf i p ps g s st rs rr sq (prM b).body = prM b ∧ Own wF (.slice bao bln bcp) (prM b).body ∧ (∀ g, (Value.slice bao bln bcp).ownBlock = some g → w.heap.size ≤ g)) ∧ (E ≠ 0 → Value.slice bao bln bcp = .slice none 0 0) := fun wF q1 q2 q3 =>
      ⟨q1, ⟨v2, re, q2, hn2, fun _ => rfl⟩, fun h0 => ⟨(hok h0).1, q3 h0, fun g hg => by have := (hok h0).2.2 g hg; omega⟩, fun h0 => (hbad h0).2.2.2.2.2.2.2.2.2.2.2.2⟩
    clear hok hbad hz0 hz1 hz2 hm1 hm2 hr hr2 hM1 hM2 ho HU
    have HX := True.intro
    go_wp2
    show bodyPost _ _ _ _ _ (stm w2 w.heap.size k o lf i p ps g s st rs rr sq (.slice bao bln bcp))
    generalize stm w2 w.heap.size k o lf i p ps g s st rs rr sq (.slice bao bln bcp) = wF at hF hMF hRF hoF HX ⊢
    obtain ⟨d0, d1, d2, d3, d4, d5, d6, d7, d8, d9, d10, d11, d12⟩ := hF.cells
    exact bodyPost_ret (v := .tuple #[.agg #[.int .i64 k, .int .i64 o, .int .i64 lf, .int .i64 i, .int .i64 p, .int .i64 ps, .int .i64 g, .bool s, .int .i64 st, .int .i64 rs, .int .i64 rr, .int .i64 sq, .slice bao bln bcp], .int .i64 E]) (by simp [results, Try.results145, go_sem, d0, d1, d2, d3, d4, d5, d6, d7, d8, d9, d10, d11, d12]) rfl ⟨k, o, lf, i, p, ps, g, s, st, rs, rr, sq, (.slice bao bln bcp), rfl, hQ wF hMF hRF hoF⟩
end Go.Proofs.Ytajhpnfpjickbaa
