/- Plain: bytes that are a packet are just those that it is packed into; how many they are. Conditions: bytes from 0 to 255; a check that says 0. Contract of packet's coder that writes: a packet of any kind. Conditions: what its slices read as; a check that says 0; room. -/
import Derived.Test.YtajhpnfpjickbaaK37
import Derived.Test.YtajhpnfpjickbaaK38
namespace Go.Proofs.Ytajhpnfpjickbaa
theorem list3 (l : List Int) (h : l.length = 3) : l = [l.getD 0 0, l.getD 1 0, l.getD 2 0] := by
  match l, h with
  | [a, b, c], _ => rfl
theorem list5 (l : List Int) (h : l.length = 5) : l = [l.getD 0 0, l.getD 1 0, l.getD 2 0, l.getD 3 0, l.getD 4 0] := by
  match l, h with
  | [a, b, c, d, e], _ => rfl
theorem pun_parts {l : List Int} (h : pun l = 0) : prd l = 0 ∧ prL l = [] ∧ pchk (prP l) = 0 := by
  unfold pun at h
  by_cases h1 : prd l = 0
  · rw [if_neg (by simp [h1])] at h
    by_cases h2 : prL l = [] ∧ pchk (prP l) = 0
    · exact ⟨h1, h2⟩
    · rw [if_neg h2] at h; omega
  · rw [if_pos h1] at h; exact absurd h h1
theorem prd_parts {l : List Int} (h : prd l = 0) : rde 1 l = 0 ∧ (1 ≤ pK l ∧ pK l ≤ 5) ∧ rde 1 (rdr 1 l) = 0 ∧ kE (pK l) (rdr 1 (rdr 1 l)) = 0 := by
  unfold prd at h
  by_cases h1 : rde 1 l = 0
  · rw [if_neg (by simp [h1])] at h
    by_cases h2 : 1 ≤ pK l ∧ pK l ≤ 5
    · rw [if_neg (by simp [h2])] at h
      by_cases h3 : rde 1 (rdr 1 l) = 0
      · rw [if_neg (by simp [h3])] at h
        exact ⟨h1, h2, h3, h⟩
      · rw [if_pos h3] at h; exact absurd h h3
    · rw [if_pos h2] at h; omega
  · rw [if_pos h1] at h; exact absurd h h1
theorem ite_zero {a : Int} {r : Int} (h : (if a ≠ 0 then a else r) = 0) : a = 0 ∧ r = 0 := by
  by_cases e : a = 0
  · rw [if_neg (by simp [e])] at h; exact ⟨e, h⟩
  · rw [if_pos e] at h; exact absurd h e
theorem five_zero {a b : Nat} {r : Int} (h : (if a < b then 5 else r) = 0) : b ≤ a ∧ r = 0 := by
  by_cases e : a < b
  · rw [if_pos e] at h; omega
  · rw [if_neg e] at h; exact ⟨by omega, h⟩
theorem gN_back {l : List Int} (hr : ∀ c ∈ l, 0 ≤ c ∧ c ≤ 255) (h : rde 1 l = 0) : packs [(gN l : Int)] ++ rdr 1 l = l := by
  have e := list1 _ (rdv_len 1 l h)
  have n := nums_getD (rdv_nums 1 l) 0
  have b := rd_back 1 l hr h
  have : (gN l : Int) = (rdv 1 l).getD 0 0 := by unfold gN; omega
  rw [this, ← e]
  exact b
theorem kP_kind (k to : Int) (l : List Int) (_ : 1 ≤ k ∧ k ≤ 5) : (kP k to l).kind = k ∧ (kP k to l).to = to := by
  unfold kP
  by_cases k1 : k = 1
  · rw [if_pos k1]; exact ⟨rfl, rfl⟩
  rw [if_neg k1]
  by_cases k2 : k = 2
  · rw [if_pos k2]; exact ⟨rfl, rfl⟩
  rw [if_neg k2]
  by_cases k3 : k = 3
  · rw [if_pos k3]; exact ⟨rfl, rfl⟩
  rw [if_neg k3]
  by_cases k4 : k = 4
  · rw [if_pos k4]; exact ⟨rfl, rfl⟩
  rw [if_neg k4]
  exact ⟨rfl, rfl⟩
theorem rest_kP {k to : Int} {l : List Int} (hk : 1 ≤ k ∧ k ≤ 5) (hr : ∀ c ∈ l, 0 ≤ c ∧ c ≤ 255) (h : kE k l = 0) (hl : kR k l = []) : rest (kP k to l) = l := by
  unfold kE at h
  unfold kR at hl
  unfold rest
  rw [(kP_kind k to l hk).1]
  unfold kP
  by_cases k1 : k = 1
  · rw [if_pos k1] at h hl
    rw [if_pos k1, if_pos k1]
    obtain ⟨h1, h2⟩ := ite_zero h
    obtain ⟨h3, h4⟩ := ite_zero h2
    have e5 := list5 _ (rdv_len 5 l h1)
    have hr5 : ∀ c ∈ rdr 5 l, 0 ≤ c ∧ c ≤ 255 := fun c hc => hr c (rdr_mem 5 l c hc)
    have b5 := rd_back 5 l hr h1
    have ob := oct_back hr5 h3
    have up := (pk_un (fun c hc => hr5 c (obody_mem c hc)) h4).1
    rw [hl, List.append_nil] at ob
    show packs [g (rdv 5 l) 0, g (rdv 5 l) 1, g (rdv 5 l) 2, g (rdv 5 l) 3, g (rdv 5 l) 4] ++ (enc (pk (prM (obody (rdr 5 l)))).length ++ pk (prM (obody (rdr 5 l)))) = l
    rw [up, ob]
    unfold g
    rw [← e5]
    exact b5
  rw [if_neg k1] at h hl
  rw [if_neg k1, if_neg k1]
  by_cases k2 : k = 2
  · rw [if_pos k2] at h hl
    rw [if_pos k2, if_pos k2]
    obtain ⟨h1, h2⟩ := ite_zero h
    obtain ⟨h3, h4⟩ := ite_zero h2
    obtain ⟨h5, h6⟩ := five_zero h4
    have e8 := list8 _ (rdv_len 8 l h1)
    have hr8 : ∀ c ∈ rdr 8 l, 0 ≤ c ∧ c ≤ 255 := fun c hc => hr c (rdr_mem 8 l c hc)
    have b8 := rd_back 8 l hr h1
    have g1 := gN_back hr8 h3
    have hr1 : ∀ c ∈ rdr 1 (rdr 8 l), 0 ≤ c ∧ c ≤ 255 := fun c hc => hr8 c (rdr_mem 1 _ c hc)
    have bn := rd_back _ _ hr1 h6
    have ln := rdv_len _ _ h6
    rw [hl, List.append_nil] at bn
    show packs [g (rdv 8 l) 0, g (rdv 8 l) 1, g (rdv 8 l) 2, g (rdv 8 l) 3, g (rdv 8 l) 4, g (rdv 8 l) 5, g (rdv 8 l) 6, g (rdv 8 l) 7] ++ (packs [((rdv (gN (rdr 8 l)) (rdr 1 (rdr 8 l))).length : Int)] ++ packs (rdv (gN (rdr 8 l)) (rdr 1 (rdr 8 l)))) = l
    rw [ln, bn, g1]
    unfold g
    rw [← e8]
    exact b8
  rw [if_neg k2] at h hl
  rw [if_neg k2, if_neg k2]
  by_cases k3 : k = 3
  · rw [if_pos k3] at h hl
    rw [if_pos k3, if_pos k3]
    have e3 := list3 _ (rdv_len 3 l h)
    have b3 := rd_back 3 l hr h
    rw [hl, List.append_nil] at b3
    show packs [g (rdv 3 l) 0, g (rdv 3 l) 1, g (rdv 3 l) 2] = l
    unfold g
    rw [← e3]
    exact b3
  rw [if_neg k3] at h hl
  rw [if_neg k3, if_neg k3]
  by_cases k4 : k = 4
  · rw [if_pos k4] at h hl
    rw [if_pos k4, if_pos k4]
    obtain ⟨h1, h2⟩ := ite_zero h
    obtain ⟨h3, h4⟩ := ite_zero h2
    obtain ⟨h5, h6⟩ := five_zero h4
    have e4 := list4 _ (rdv_len 4 l h1)
    have hr4 : ∀ c ∈ rdr 4 l, 0 ≤ c ∧ c ≤ 255 := fun c hc => hr c (rdr_mem 4 l c hc)
    have b4 := rd_back 4 l hr h1
    have g1 := gN_back hr4 h3
    have hr1 : ∀ c ∈ rdr 1 (rdr 4 l), 0 ≤ c ∧ c ≤ 255 := fun c hc => hr4 c (rdr_mem 1 _ c hc)
    have bn := rd_back _ _ hr1 h6
    have ln := rdv_len _ _ h6
    rw [hl, List.append_nil] at bn
    show packs [g (rdv 4 l) 0, g (rdv 4 l) 1, g (rdv 4 l) 2, g (rdv 4 l) 3] ++ (packs [((ents (gN (rdr 4 l)) (rdv (gN (rdr 4 l) * 6) (rdr 1 (rdr 4 l)))).length : Int)] ++ packs (eys (ents (gN (rdr 4 l)) (rdv (gN (rdr 4 l) * 6) (rdr 1 (rdr 4 l)))))) = l
    rw [ents_len, eys_ents _ _ ln, bn, g1]
    unfold g
    rw [← e4]
    exact b4
  rw [if_neg k4] at h hl
  rw [if_neg k4, if_neg k4]
  have e3 := list3 _ (rdv_len 3 l h)
  have b3 := rd_back 3 l hr h
  rw [hl, List.append_nil] at b3
  show packs [g (rdv 3 l) 0, g (rdv 3 l) 1, g (rdv 3 l) 2] = l
  unfold g
  rw [← e3]
  exact b3
/-- Bytes that are a packet are just those that it is packed into. -/
theorem pby_prP {l : List Int} (hr : ∀ c ∈ l, 0 ≤ c ∧ c ≤ 255) (h : pun l = 0) : pby (prP l) = l ∧ pchk (prP l) = 0 := by
  obtain ⟨h1, h2, h3⟩ := pun_parts h
  refine ⟨?_, h3⟩
  obtain ⟨a1, a2, a3, a4⟩ := prd_parts h1
  have hr1 : ∀ c ∈ rdr 1 l, 0 ≤ c ∧ c ≤ 255 := fun c hc => hr c (rdr_mem 1 l c hc)
  have hr2 : ∀ c ∈ rdr 1 (rdr 1 l), 0 ≤ c ∧ c ≤ 255 := fun c hc => hr1 c (rdr_mem 1 _ c hc)
  have r := rest_kP (to := pT l) a2 hr2 a4 h2
  have b1 := rd_back 1 l hr a1
  have b2 := rd_back 1 _ hr1 a3
  have e1 := list1 _ (rdv_len 1 l a1)
  have e2 := list1 _ (rdv_len 1 _ a3)
  unfold pby prP
  rw [r, (kP_kind _ _ _ a2).1, (kP_kind _ _ _ a2).2]
  unfold pK pT g
  rw [← e1, ← e2, b2, b1]
theorem pby_len {p : Pk} (h : pchk p = 0) : (pby p).length ≤ 508 := by
  unfold pby rest
  have q1 := packs_len [p.kind]
  have q2 := packs_len [p.to]
  rcases pchk_kinds h with ⟨d, e, ok⟩ | ⟨to, t, e, ht, ok⟩ | ⟨j, e, ok⟩ | ⟨c, e, ok⟩ | ⟨b, e, ok⟩
  · have l1 := packs_len p.d.ns
    have l2 := enc_len (pk p.d.m).length
    have l3 := pk_len p.d.m
    have l4 : p.d.m.body.length ≤ 160 := by rw [e]; exact (chk_parts (okD_num ok).2).1
    have ek : p.kind = 1 := by rw [e]
    rw [if_pos ek]
    simp only [List.length_append, List.length_cons, List.length_nil, Dt.ns] at *
    omega
  · have l1 := packs_len p.t.ns
    have l2 := packs_len [(p.t.ask.length : Int)]
    have l3 := packs_len p.t.ask
    have l4 : p.t.ask.length ≤ 16 := by rw [e]; exact (okT_num ok).2.2
    have ek : p.kind = 2 := by rw [e]
    rw [if_neg (by omega), if_pos ek]
    simp only [List.length_append, List.length_cons, List.length_nil, Tk.ns] at *
    omega
  · have l1 := packs_len [p.j.sn, p.j.proc, p.j.ct]
    have ek : p.kind = 3 := by rw [e]
    rw [if_neg (by omega), if_neg (by omega), if_pos ek]
    simp only [List.length_append, List.length_cons, List.length_nil] at *
    omega
  · have l1 := packs_len p.c.ns
    have l2 := packs_len [(p.c.es.length : Int)]
    have l3 := packs_len (eys p.c.es)
    have l5 := eys_len6 p.c.es
    have l4 : p.c.es.length ≤ 8 := by rw [e]; exact (okC_num ok).2.2
    have ek : p.kind = 4 := by rw [e]
    rw [if_neg (by omega), if_neg (by omega), if_neg (by omega), if_pos ek]
    simp only [List.length_append, List.length_cons, List.length_nil, Cm.ns] at *
    omega
  · have l1 := packs_len [p.b.rs, p.b.rr, p.b.sn]
    have ek : p.kind = 5 := by rw [e]
    rw [if_neg (by omega), if_neg (by omega), if_neg (by omega), if_neg (by omega)]
    simp only [List.length_append, List.length_cons, List.length_nil] at *
    omega
theorem pby_rng {p : Pk} (hb : ∀ c ∈ p.d.m.body, 0 ≤ c ∧ c ≤ 255) : ∀ c ∈ pby p, 0 ≤ c ∧ c ≤ 255 := by
  unfold pby rest
  refine rng_app (packs_rng _) (rng_app (packs_rng _) ?_)
  by_cases k1 : p.kind = 1
  · rw [if_pos k1]; exact rng_app (packs_rng _) (rng_app (enc_rng _) (pk_rng _ hb))
  rw [if_neg k1]
  by_cases k2 : p.kind = 2
  · rw [if_pos k2]; exact rng_app (packs_rng _) (rng_app (packs_rng _) (packs_rng _))
  rw [if_neg k2]
  by_cases k3 : p.kind = 3
  · rw [if_pos k3]; exact packs_rng _
  rw [if_neg k3]
  by_cases k4 : p.kind = 4
  · rw [if_pos k4]; exact rng_app (packs_rng _) (rng_app (packs_rng _) (packs_rng _))
  rw [if_neg k4]; exact packs_rng _
end Go.Proofs.Ytajhpnfpjickbaa
namespace Go.Proofs.Ytajhpnfpjickbaa
open Go.RowKit
theorem well_k {p : Pk} (h : well p = true) : (p.kind = 1 ∧ okD p.d = true) ∨ (p.kind = 2 ∧ okT p.t = true) ∨ (p.kind = 3 ∧ okJ p.j = true) ∨ (p.kind = 4 ∧ okC p.c = true) ∨ (p.kind = 5 ∧ okB p.b = true) := by
  unfold well at h
  by_cases k1 : p.kind = 1
  · rw [if_pos k1, Bool.and_eq_true] at h; exact .inl ⟨k1, h.2⟩
  rw [if_neg k1] at h
  by_cases k2 : p.kind = 2
  · rw [if_pos k2, Bool.and_eq_true] at h; exact .inr (.inl ⟨k2, h.2⟩)
  rw [if_neg k2] at h
  by_cases k3 : p.kind = 3
  · rw [if_pos k3, Bool.and_eq_true] at h; exact .inr (.inr (.inl ⟨k3, h.2⟩))
  rw [if_neg k3] at h
  by_cases k4 : p.kind = 4
  · rw [if_pos k4, Bool.and_eq_true] at h; exact .inr (.inr (.inr (.inl ⟨k4, h.1⟩)))
  rw [if_neg k4] at h
  by_cases k5 : p.kind = 5
  · rw [if_pos k5, Bool.and_eq_true] at h; exact .inr (.inr (.inr (.inr ⟨k5, h.2⟩)))
  · rw [if_neg k5] at h; cases h
set_option maxRecDepth 100000 in
set_option maxHeartbeats 2000000 in
theorem packet_w (q pw : Nat) (v : Value) (L : List Int) (pb : Nat) (kd to dq dr ds dn dt k o lf i p ps g : Int) (s : Bool) (st rs rr sq : Int) (ao : Option Addr) (cap : Nat) (l : List Int) (tq tr th tsq ta tl tst ti : Int) (tao : Option Addr) (tcap : Nat) (tk : List Int) (js jp jc cq cr_ cm ch_ : Int) (cao : Option Addr) (ccap : Nat) (ce : List Ey) (bq br_ bs : Int) (xs : Array Value) (hxs : xs = px kd to dq dr ds dn dt k o lf i p ps g s st rs rr sq ao cap l tq tr th tsq ta tl tst ti tao tcap tk js jp jc cq cr_ cm ch_ cao ccap ce bq br_ bs) (w : World) (hB : Bk w pb 76 xs) (hc : Cw w q pw) (h : Wr w pw v L) (hq : q ≠ pw ∧ v.ownBlock ≠ some q) (hr : pb ≠ pw ∧ v.ownBlock ≠ some pb) (hb : L.length + 900 ≤ 140737488355328)
    (hs : Sl w (.slice ao l.length cap) l) (hsv : l ≠ [] → ∀ g, (Value.slice ao l.length cap).ownBlock = some g → g ≠ pw ∧ v.ownBlock ≠ some g)
    (ht : Cr.Sl w (.slice tao tk.length tcap) tk) (htv : tk ≠ [] → ∀ g, (Value.slice tao tk.length tcap).ownBlock = some g → g ≠ pw ∧ v.ownBlock ≠ some g)
    (he : SlE w (.slice cao ce.length ccap) ce) (hev : ce ≠ [] → ∀ g, (Value.slice cao ce.length ccap).ownBlock = some g → g ≠ pw ∧ v.ownBlock ≠ some g)
    (hk : pchk ⟨kd, to, ⟨dq, dr, ds, dn, dt, ⟨k, o, lf, i, p, ps, g, s, st, rs, rr, sq, l⟩⟩, ⟨tq, tr, th, tsq, ta, tl, tst, ti, tk⟩, ⟨js, jp, jc⟩, ⟨cq, cr_, cm, ch_, ce⟩, ⟨bq, br_, bs⟩⟩ = 0) :
    Calls Try.prog 73 #[.pointer (some ⟨q, 0, none⟩), .pointer (some ⟨pb, 0, none⟩)] w fun e w' => e = .returned (.tuple #[]) ∧ ∃ v', Wr w' pw v' (L ++ pby ⟨kd, to, ⟨dq, dr, ds, dn, dt, ⟨k, o, lf, i, p, ps, g, s, st, rs, rr, sq, l⟩⟩, ⟨tq, tr, th, tsq, ta, tl, tst, ti, tk⟩, ⟨js, jp, jc⟩, ⟨cq, cr_, cm, ch_, ce⟩, ⟨bq, br_, bs⟩⟩) ∧ Mod (fun k => k = pw ∨ v.ownBlock = some k) w w' ∧ Fr w v v' := by
  have hw := (pchk_parts hk).2
  have hn := (well_num hw).2
  have hkk := well_k hw
  clear hw hk
  simp only at hn hkk
  obtain ⟨n, rfl⟩ : ∃ n : Nat, to = n := ⟨to.toNat, by omega⟩
  have hto : n ≤ 9007199254740991 := by omega
  rcases hkk with ⟨rfl, ok⟩ | ⟨rfl, ok⟩ | ⟨rfl, ok⟩ | ⟨rfl, ok⟩ | ⟨rfl, ok⟩
  · obtain ⟨n1, n2⟩ := okD_num ok
    exact packet_w1 q pw v L pb n dq dr ds dn dt k o lf i p ps g s st rs rr sq ao cap l w hc h hq hr hto hb hs hsv n2 n1 (hB.cellv (by rw [hxs]; rfl)) (hB.cellv (by rw [hxs]; rfl)) (hB.cellv (by rw [hxs]; rfl)) (hB.cellv (by rw [hxs]; rfl)) (hB.cellv (by rw [hxs]; rfl)) (hB.cellv (by rw [hxs]; rfl)) (hB.cellv (by rw [hxs]; rfl)) (hB.cellv (by rw [hxs]; rfl)) (hB.cellv (by rw [hxs]; rfl)) (hB.cellv (by rw [hxs]; rfl)) (hB.cellv (by rw [hxs]; rfl)) (hB.cellv (by rw [hxs]; rfl)) (hB.cellv (by rw [hxs]; rfl)) (hB.cellv (by rw [hxs]; rfl)) (hB.cellv (by rw [hxs]; rfl)) (hB.cellv (by rw [hxs]; rfl)) (hB.cellv (by rw [hxs]; rfl)) (hB.cellv (by rw [hxs]; rfl)) (hB.cellv (by rw [hxs]; rfl)) (hB.cellv (by rw [hxs]; rfl))
  · obtain ⟨n1, n2, n3⟩ := okT_num ok
    exact packet_w2 q pw v L pb n tq tr th tsq ta tl tst ti tao tcap tk w hc h hq hr hto hb ht htv n1 n2 n3 (hB.cellv (by rw [hxs]; rfl)) (hB.cellv (by rw [hxs]; rfl)) (hB.cellv (by rw [hxs]; rfl)) (hB.cellv (by rw [hxs]; rfl)) (hB.cellv (by rw [hxs]; rfl)) (hB.cellv (by rw [hxs]; rfl)) (hB.cellv (by rw [hxs]; rfl)) (hB.cellv (by rw [hxs]; rfl)) (hB.cellv (by rw [hxs]; rfl)) (hB.cellv (by rw [hxs]; rfl)) (hB.cellv (by rw [hxs]; rfl))
  · have n1 := okJ_num ok
    exact packet_w3 q pw v L pb n js jp jc w hc h hq hr hto hb n1 (hB.cellv (by rw [hxs]; rfl)) (hB.cellv (by rw [hxs]; rfl)) (hB.cellv (by rw [hxs]; rfl)) (hB.cellv (by rw [hxs]; rfl)) (hB.cellv (by rw [hxs]; rfl))
  · obtain ⟨n1, n2, n3⟩ := okC_num ok
    exact packet_w4 q pw v L pb n cq cr_ cm ch_ cao ccap ce w hc h hq hr hto hb he hev n1 n2 n3 (hB.cellv (by rw [hxs]; rfl)) (hB.cellv (by rw [hxs]; rfl)) (hB.cellv (by rw [hxs]; rfl)) (hB.cellv (by rw [hxs]; rfl)) (hB.cellv (by rw [hxs]; rfl)) (hB.cellv (by rw [hxs]; rfl)) (hB.cellv (by rw [hxs]; rfl))
  · have n1 := okB_num ok
    have n2 : 0 ≤ bs ∧ bs ≤ 9007199254740991 := n1 bs (by simp)
    obtain ⟨m, rfl⟩ : ∃ m : Nat, bs = m := ⟨bs.toNat, by omega⟩
    exact packet_w5 q pw v L pb n bq br_ m w hc h hq hr hto hb (fun x hx => n1 x (by simp only [List.mem_cons, List.not_mem_nil, or_false] at hx ⊢; omega)) (by omega) (hB.cellv (by rw [hxs]; rfl)) (hB.cellv (by rw [hxs]; rfl)) (hB.cellv (by rw [hxs]; rfl)) (hB.cellv (by rw [hxs]; rfl)) (hB.cellv (by rw [hxs]; rfl))
end Go.Proofs.Ytajhpnfpjickbaa
