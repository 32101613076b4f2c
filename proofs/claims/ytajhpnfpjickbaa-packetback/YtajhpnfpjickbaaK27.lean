/- Contracts of packet's areMembers and receiver. Conditions: sizes that a slice has. -/
import Derived.Test.YtajhpnfpjickbaaK23
import Derived.Test.YtajhpnfpjickbaaK26
import Derived.Deep.Cut
namespace Go.Proofs.Ytajhpnfpjickbaa
open Go.RowKit
/-- A slice of entries. -/
structure SlE (w : World) (v : Value) (l : List Ey) : Prop where
  form : ∃ ao cap, v = .slice ao l.length cap ∧ l.length ≤ cap ∧ cap ≤ maxLen ∧ (ao = none → cap = 0) ∧
    (l ≠ [] → ∃ b off, ao = some ⟨b, off, none⟩ ∧ ∀ j e, l[j]? = some e → w.cell? ⟨b, off + j * 6, none⟩ = some (.int .i64 e.nd) ∧ w.cell? ⟨b, off + j * 6 + 1, none⟩ = some (.int .i64 e.os) ∧ w.cell? ⟨b, off + j * 6 + 2, none⟩ = some (.int .i64 e.od) ∧ w.cell? ⟨b, off + j * 6 + 3, none⟩ = some (.int .i64 e.aru) ∧ w.cell? ⟨b, off + j * 6 + 4, none⟩ = some (.int .i64 e.high) ∧ w.cell? ⟨b, off + j * 6 + 5, none⟩ = some (.int .i64 e.ck))
theorem SlE.mod {S : Nat → Prop} {w w' : World} {v : Value} {l : List Ey} (h : SlE w v l) (hm : Mod S w w') (hv : l ≠ [] → ∀ g, v.ownBlock = some g → ¬ S g) : SlE w' v l := by
  obtain ⟨ao, cap, rfl, h1, h2, h3, h4⟩ := h.form
  refine ⟨ao, cap, rfl, h1, h2, h3, fun hl => ?_⟩
  obtain ⟨b, off, rfl, hc⟩ := h4 hl
  refine ⟨b, off, rfl, fun j e he => ?_⟩
  obtain ⟨c0, c1, c2, c3, c4, c5⟩ := hc j e he
  exact ⟨hm.cell c0 (hv hl b rfl), hm.cell c1 (hv hl b rfl), hm.cell c2 (hv hl b rfl), hm.cell c3 (hv hl b rfl), hm.cell c4 (hv hl b rfl), hm.cell c5 (hv hl b rfl)⟩
theorem mbs_drop {l : List Ey} {m : List Int} {k : Nat} {e : Ey} (h : l[k]? = some e) : mbs (l.drop k) (m.drop k) = (okE e (m.getD k 0) && mbs (l.drop (k + 1)) (m.drop (k + 1))) := by
  obtain ⟨hk, rfl⟩ := List.getElem?_eq_some_iff.1 h
  rw [List.drop_eq_getElem_cons hk]
  show (okE _ ((m.drop k).getD 0 0) && mbs _ ((m.drop k).drop 1)) = _
  rw [List.drop_drop]
  simp [List.getD_eq_getElem?_getD]
set_option maxRecDepth 100000 in
set_option maxHeartbeats 8000000 in
theorem areMembers_any (v mv : Value) (l : List Ey) (m : List Int) (w : World) (hs : SlE w v l) (hm : Cr.Sl w mv m) (hlen : l.length ≤ m.length) : Calls Try.prog 141 #[v, mv] w fun e w' => e = .returned (.bool (mbs l m)) ∧ Mod (fun _ => False) w w' := by
  obtain ⟨ao, cap, rfl, h1, h2, h3, h4⟩ := hs.form
  obtain ⟨mo', mcap, rfl, q1, q2, q3, q4⟩ := hm
  unfold maxLen at h2 q2
  have hR : Hid (mbs l m = mbs (l.drop 0) (m.drop 0)) := rfl
  generalize mbs l m = R at hR ⊢
  clear hs
  go_enter Try.func141, Try.ntmps141
  go_wp2
  go_loopw [9] (fun i wr => ∃ k : Nat, i = .int .i64 k ∧ k ≤ l.length ∧ Hid (R = mbs (l.drop k) (m.drop k)) ∧ Hid (Mod (fun _ => False) w wr)) (fun i _ => l.length - (intOf i).toNat)
  case atStart => exact ⟨0, rfl, by omega, hR, Mod.refl _ _⟩
  case round =>
    obtain ⟨k, rfl, hk, hR', hMw⟩ := hrel
    clear hR
    by_cases hlt : k < l.length
    · obtain ⟨e, he⟩ : ∃ e, l[k]? = some e := ⟨_, List.getElem?_eq_getElem hlt⟩
      have hne : l ≠ [] := by rintro rfl; simp at hlt
      have hmne : m ≠ [] := by rintro rfl; simp at hlen; exact hne hlen
      obtain ⟨b, off, rfl, hc⟩ := h4 hne
      obtain ⟨mb, mo, rfl, hmc⟩ := q4 hmne
      obtain ⟨c0, c1, c2, c3, c4, c5⟩ := hc k e he
      replace c0 := hMw.out.cell c0 (fun h => h)
      replace c1 := hMw.out.cell c1 (fun h => h)
      replace c2 := hMw.out.cell c2 (fun h => h)
      replace c3 := hMw.out.cell c3 (fun h => h)
      replace c4 := hMw.out.cell c4 (fun h => h)
      replace c5 := hMw.out.cell c5 (fun h => h)
      have cm := hMw.out.cell (hmc k (by omega)) (fun h => h)
      have hd := mbs_drop (m := m) he
      rw [hd] at hR'
      obtain ⟨en, os, od, ar, hh, ck⟩ := e
      simp only at c0 c1 c2 c3 c4 c5
      obtain ⟨mk, hmk⟩ : ∃ mk, m.getD k 0 = mk := ⟨_, rfl⟩
      rw [hmk] at hR' cm
      have hok : okE ⟨en, os, od, ar, hh, ck⟩ mk = (decide (en = mk) && (isr os od && (nm hh && (win ar 0 hh && nm ck)))) := by simp [okE, Bool.and_assoc]
      rw [hok] at hR'
      have H1 := pkRing os od
      have H2 := pkNumber hh
      have H3 := pkWithin ar 0 hh
      have H4 := pkNumber ck
      generalize isr os od = c1' at H1 hR'
      generalize nm hh = c2' at H2 hR'
      generalize win ar 0 hh = c3' at H3 hR'
      generalize nm ck = c4' at H4 hR'
      have hki : (k : Int) < l.length := by omega
      have hkm : (k : Int) < m.length := by omega
      clear hd hok hmk he hc hmc h4 q4
      have hM0 : Mod (fun _ => False) w (wr.alloc (.cells #[.int .i64 en, .int .i64 os, .int .i64 od, .int .i64 ar, .int .i64 hh, .int .i64 ck] 167)).drew := (hMw.out.alloc _).drew
      have hB0 := Bk.new wr #[.int .i64 en, .int .i64 os, .int .i64 od, .int .i64 ar, .int .i64 hh, .int .i64 ck] 167
      have a0 : (wr.alloc (.cells #[.int .i64 en, .int .i64 os, .int .i64 od, .int .i64 ar, .int .i64 hh, .int .i64 ck] 167)).cell? ⟨wr.heap.size, 0, none⟩ = some (.int .i64 en) := hB0.cellv rfl
      have a1 : (wr.alloc (.cells #[.int .i64 en, .int .i64 os, .int .i64 od, .int .i64 ar, .int .i64 hh, .int .i64 ck] 167)).cell? ⟨wr.heap.size, 1, none⟩ = some (.int .i64 os) := hB0.cellv rfl
      have a2 : (wr.alloc (.cells #[.int .i64 en, .int .i64 os, .int .i64 od, .int .i64 ar, .int .i64 hh, .int .i64 ck] 167)).cell? ⟨wr.heap.size, 2, none⟩ = some (.int .i64 od) := hB0.cellv rfl
      have a3 : (wr.alloc (.cells #[.int .i64 en, .int .i64 os, .int .i64 od, .int .i64 ar, .int .i64 hh, .int .i64 ck] 167)).cell? ⟨wr.heap.size, 3, none⟩ = some (.int .i64 ar) := hB0.cellv rfl
      have a4 : (wr.alloc (.cells #[.int .i64 en, .int .i64 os, .int .i64 od, .int .i64 ar, .int .i64 hh, .int .i64 ck] 167)).cell? ⟨wr.heap.size, 4, none⟩ = some (.int .i64 hh) := hB0.cellv rfl
      have a5 : (wr.alloc (.cells #[.int .i64 en, .int .i64 os, .int .i64 od, .int .i64 ar, .int .i64 hh, .int .i64 ck] 167)).cell? ⟨wr.heap.size, 5, none⟩ = some (.int .i64 ck) := hB0.cellv rfl
      have am : (wr.alloc (.cells #[.int .i64 en, .int .i64 os, .int .i64 od, .int .i64 ar, .int .i64 hh, .int .i64 ck] 167)).cell? ⟨mb, mo + k, none⟩ = some (.int .i64 mk) := ((Mod.refl (fun _ => False) wr).alloc (.cells #[.int .i64 en, .int .i64 os, .int .i64 od, .int .i64 ar, .int .i64 hh, .int .i64 ck] 167)).cell cm (fun h => h)
      have hM := hM0
      clear hM0 hB0
      go_upto_region 4 with fail
      generalize hg : wr.heap.size = g at *
      generalize wr.alloc (.cells #[.int .i64 en, .int .i64 os, .int .i64 od, .int .i64 ar, .int .i64 hh, .int .i64 ck] 167) = W0 at *
      clear c0 c1 c2 c3 c4 c5 cm
      by_cases hn : en = mk
      case neg =>
        have hnb : (en != mk) = true := by simp [hn]
        have hdn : decide (en = mk) = false := by simp [hn]
        rw [hdn] at hR'
        have HR : Hid (R = false) := by show _ = _; have := hR'.out; simp at this; exact this
        clear hR'
        refine region40 g mb mo m.length mcap k en os od ar hh ck mk ⟨⟨⟨_, rfl, rfl, rfl, rfl, by decide +kernel⟩⟩, ⟨⟨_, rfl, rfl, rfl, rfl, by decide +kernel⟩⟩, ⟨⟨_, rfl, rfl, rfl, rfl, by decide +kernel⟩⟩, ⟨⟨_, rfl, rfl, rfl, rfl, by decide +kernel⟩⟩, ⟨⟨_, rfl, rfl, rfl, rfl, by decide +kernel⟩⟩, ⟨⟨_, rfl, rfl, rfl, rfl, by decide +kernel⟩⟩, ⟨⟨_, rfl, rfl, rfl, rfl, by decide +kernel⟩⟩, ⟨⟨_, rfl, rfl, rfl, rfl, by decide +kernel⟩⟩, ⟨⟨_, rfl, rfl, rfl, rfl, by decide +kernel⟩⟩, ⟨⟨_, rfl, rfl, rfl, rfl, by decide +kernel⟩⟩, ⟨⟨_, rfl, rfl, rfl, rfl, by decide +kernel⟩⟩, ⟨⟨_, rfl, rfl, rfl, rfl, by decide +kernel⟩⟩, ⟨⟨_, rfl, rfl, rfl, rfl, by decide +kernel⟩⟩, ⟨⟨_, rfl, rfl, rfl, rfl, by decide +kernel⟩⟩, ⟨⟨_, rfl, rfl, rfl, rfl, by decide +kernel⟩⟩, ⟨⟨_, rfl, rfl, rfl, rfl, by decide +kernel⟩⟩, ⟨⟨_, rfl, rfl, rfl, rfl, by decide +kernel⟩⟩, ⟨⟨_, rfl, rfl, rfl, rfl, by decide +kernel⟩⟩, ⟨⟨_, rfl, rfl, rfl, rfl, by decide +kernel⟩⟩, ⟨⟨_, rfl, rfl, rfl, rfl, by decide +kernel⟩⟩, ⟨⟨_, rfl, rfl, rfl, rfl, by decide +kernel⟩⟩, ⟨⟨_, rfl, rfl, rfl, rfl, by decide +kernel⟩⟩, ⟨⟨_, rfl, rfl, rfl, rfl, by decide +kernel⟩⟩, ⟨⟨_, rfl, rfl, rfl, rfl, by decide +kernel⟩⟩, ⟨⟨_, rfl, rfl, rfl, rfl, by decide +kernel⟩⟩, ⟨⟨_, rfl, rfl, rfl, rfl, by decide +kernel⟩⟩, ⟨⟨_, rfl, rfl, rfl, rfl, by decide +kernel⟩⟩, ⟨⟨_, rfl, rfl, rfl, rfl, by decide +kernel⟩⟩, ⟨⟨_, rfl, rfl, rfl, rfl, by decide +kernel⟩⟩, ⟨⟨_, rfl, rfl, rfl, rfl, by decide +kernel⟩⟩, ⟨⟨_, rfl, rfl, rfl, rfl, by decide +kernel⟩⟩, ⟨⟨_, rfl, rfl, rfl, rfl, by decide +kernel⟩⟩, ⟨⟨_, rfl, rfl, rfl, rfl, by decide +kernel⟩⟩⟩ rfl (by decide +kernel) rfl (by decide +kernel) mixed rfl rfl rfl rfl (by omega) hnb a0 a1 a2 a3 a4 a5 am  ?_
        intro w1 hm1
        simp only [puts, Act.put, List.setIfInBounds_toArray, List.set_cons_succ, List.set_cons_zero]
        replace hM := hM.trans hm1 (V := fun _ => False) (fun _ _ h => h) (fun _ _ h => h)
        go_wp2
        have hRT := HR.out
        subst hRT
        go_ret
        exact ⟨rfl, hM⟩
      case pos =>
      subst hn
      have hnb : (en != en) = false := by simp
      cases c1'
      case false =>
        have HR : Hid (R = false) := by show _ = _; have := hR'.out; simp at this; exact this
        clear hR'
        refine region41 g mb mo m.length mcap k en os od ar hh ck en ⟨⟨⟨_, rfl, rfl, rfl, rfl, by decide +kernel⟩⟩, ⟨⟨_, rfl, rfl, rfl, rfl, by decide +kernel⟩⟩, ⟨⟨_, rfl, rfl, rfl, rfl, by decide +kernel⟩⟩, ⟨⟨_, rfl, rfl, rfl, rfl, by decide +kernel⟩⟩, ⟨⟨_, rfl, rfl, rfl, rfl, by decide +kernel⟩⟩, ⟨⟨_, rfl, rfl, rfl, rfl, by decide +kernel⟩⟩, ⟨⟨_, rfl, rfl, rfl, rfl, by decide +kernel⟩⟩, ⟨⟨_, rfl, rfl, rfl, rfl, by decide +kernel⟩⟩, ⟨⟨_, rfl, rfl, rfl, rfl, by decide +kernel⟩⟩, ⟨⟨_, rfl, rfl, rfl, rfl, by decide +kernel⟩⟩, ⟨⟨_, rfl, rfl, rfl, rfl, by decide +kernel⟩⟩, ⟨⟨_, rfl, rfl, rfl, rfl, by decide +kernel⟩⟩, ⟨⟨_, rfl, rfl, rfl, rfl, by decide +kernel⟩⟩, ⟨⟨_, rfl, rfl, rfl, rfl, by decide +kernel⟩⟩, ⟨⟨_, rfl, rfl, rfl, rfl, by decide +kernel⟩⟩, ⟨⟨_, rfl, rfl, rfl, rfl, by decide +kernel⟩⟩, ⟨⟨_, rfl, rfl, rfl, rfl, by decide +kernel⟩⟩, ⟨⟨_, rfl, rfl, rfl, rfl, by decide +kernel⟩⟩, ⟨⟨_, rfl, rfl, rfl, rfl, by decide +kernel⟩⟩, ⟨⟨_, rfl, rfl, rfl, rfl, by decide +kernel⟩⟩, ⟨⟨_, rfl, rfl, rfl, rfl, by decide +kernel⟩⟩, ⟨⟨_, rfl, rfl, rfl, rfl, by decide +kernel⟩⟩, ⟨⟨_, rfl, rfl, rfl, rfl, by decide +kernel⟩⟩, ⟨⟨_, rfl, rfl, rfl, rfl, by decide +kernel⟩⟩, ⟨⟨_, rfl, rfl, rfl, rfl, by decide +kernel⟩⟩, ⟨⟨_, rfl, rfl, rfl, rfl, by decide +kernel⟩⟩, ⟨⟨_, rfl, rfl, rfl, rfl, by decide +kernel⟩⟩, ⟨⟨_, rfl, rfl, rfl, rfl, by decide +kernel⟩⟩, ⟨⟨_, rfl, rfl, rfl, rfl, by decide +kernel⟩⟩, ⟨⟨_, rfl, rfl, rfl, rfl, by decide +kernel⟩⟩, ⟨⟨_, rfl, rfl, rfl, rfl, by decide +kernel⟩⟩, ⟨⟨_, rfl, rfl, rfl, rfl, by decide +kernel⟩⟩, ⟨⟨_, rfl, rfl, rfl, rfl, by decide +kernel⟩⟩⟩ rfl (by decide +kernel) rfl (by decide +kernel) mixed rfl rfl rfl rfl (by omega) hnb a0 a1 a2 a3 a4 a5 am H1 ?_
        intro w1 hm1
        simp only [puts, Act.put, List.setIfInBounds_toArray, List.set_cons_succ, List.set_cons_zero]
        replace hM := hM.trans hm1 (V := fun _ => False) (fun _ _ h => h) (fun _ _ h => h)
        go_wp2
        have hRT := HR.out
        subst hRT
        go_ret
        exact ⟨rfl, hM⟩
      case true =>
      cases c2'
      case false =>
        have HR : Hid (R = false) := by show _ = _; have := hR'.out; simp at this; exact this
        clear hR'
        refine region42 g mb mo m.length mcap k en os od ar hh ck en ⟨⟨⟨_, rfl, rfl, rfl, rfl, by decide +kernel⟩⟩, ⟨⟨_, rfl, rfl, rfl, rfl, by decide +kernel⟩⟩, ⟨⟨_, rfl, rfl, rfl, rfl, by decide +kernel⟩⟩, ⟨⟨_, rfl, rfl, rfl, rfl, by decide +kernel⟩⟩, ⟨⟨_, rfl, rfl, rfl, rfl, by decide +kernel⟩⟩, ⟨⟨_, rfl, rfl, rfl, rfl, by decide +kernel⟩⟩, ⟨⟨_, rfl, rfl, rfl, rfl, by decide +kernel⟩⟩, ⟨⟨_, rfl, rfl, rfl, rfl, by decide +kernel⟩⟩, ⟨⟨_, rfl, rfl, rfl, rfl, by decide +kernel⟩⟩, ⟨⟨_, rfl, rfl, rfl, rfl, by decide +kernel⟩⟩, ⟨⟨_, rfl, rfl, rfl, rfl, by decide +kernel⟩⟩, ⟨⟨_, rfl, rfl, rfl, rfl, by decide +kernel⟩⟩, ⟨⟨_, rfl, rfl, rfl, rfl, by decide +kernel⟩⟩, ⟨⟨_, rfl, rfl, rfl, rfl, by decide +kernel⟩⟩, ⟨⟨_, rfl, rfl, rfl, rfl, by decide +kernel⟩⟩, ⟨⟨_, rfl, rfl, rfl, rfl, by decide +kernel⟩⟩, ⟨⟨_, rfl, rfl, rfl, rfl, by decide +kernel⟩⟩, ⟨⟨_, rfl, rfl, rfl, rfl, by decide +kernel⟩⟩, ⟨⟨_, rfl, rfl, rfl, rfl, by decide +kernel⟩⟩, ⟨⟨_, rfl, rfl, rfl, rfl, by decide +kernel⟩⟩, ⟨⟨_, rfl, rfl, rfl, rfl, by decide +kernel⟩⟩, ⟨⟨_, rfl, rfl, rfl, rfl, by decide +kernel⟩⟩, ⟨⟨_, rfl, rfl, rfl, rfl, by decide +kernel⟩⟩, ⟨⟨_, rfl, rfl, rfl, rfl, by decide +kernel⟩⟩, ⟨⟨_, rfl, rfl, rfl, rfl, by decide +kernel⟩⟩, ⟨⟨_, rfl, rfl, rfl, rfl, by decide +kernel⟩⟩, ⟨⟨_, rfl, rfl, rfl, rfl, by decide +kernel⟩⟩, ⟨⟨_, rfl, rfl, rfl, rfl, by decide +kernel⟩⟩, ⟨⟨_, rfl, rfl, rfl, rfl, by decide +kernel⟩⟩, ⟨⟨_, rfl, rfl, rfl, rfl, by decide +kernel⟩⟩, ⟨⟨_, rfl, rfl, rfl, rfl, by decide +kernel⟩⟩, ⟨⟨_, rfl, rfl, rfl, rfl, by decide +kernel⟩⟩, ⟨⟨_, rfl, rfl, rfl, rfl, by decide +kernel⟩⟩⟩ rfl (by decide +kernel) rfl (by decide +kernel) mixed rfl rfl rfl rfl (by omega) hnb a0 a1 a2 a3 a4 a5 am H1 (fun W => (H2 W).mono fun _ _ h => ⟨h.1, h.2 ▸ Mod.refl _ _⟩) ?_
        intro w1 hm1
        simp only [puts, Act.put, List.setIfInBounds_toArray, List.set_cons_succ, List.set_cons_zero]
        replace hM := hM.trans hm1 (V := fun _ => False) (fun _ _ h => h) (fun _ _ h => h)
        go_wp2
        have hRT := HR.out
        subst hRT
        go_ret
        exact ⟨rfl, hM⟩
      case true =>
      cases c3'
      case false =>
        have HR : Hid (R = false) := by show _ = _; have := hR'.out; simp at this; exact this
        clear hR'
        refine region43 g mb mo m.length mcap k en os od ar hh ck en ⟨⟨⟨_, rfl, rfl, rfl, rfl, by decide +kernel⟩⟩, ⟨⟨_, rfl, rfl, rfl, rfl, by decide +kernel⟩⟩, ⟨⟨_, rfl, rfl, rfl, rfl, by decide +kernel⟩⟩, ⟨⟨_, rfl, rfl, rfl, rfl, by decide +kernel⟩⟩, ⟨⟨_, rfl, rfl, rfl, rfl, by decide +kernel⟩⟩, ⟨⟨_, rfl, rfl, rfl, rfl, by decide +kernel⟩⟩, ⟨⟨_, rfl, rfl, rfl, rfl, by decide +kernel⟩⟩, ⟨⟨_, rfl, rfl, rfl, rfl, by decide +kernel⟩⟩, ⟨⟨_, rfl, rfl, rfl, rfl, by decide +kernel⟩⟩, ⟨⟨_, rfl, rfl, rfl, rfl, by decide +kernel⟩⟩, ⟨⟨_, rfl, rfl, rfl, rfl, by decide +kernel⟩⟩, ⟨⟨_, rfl, rfl, rfl, rfl, by decide +kernel⟩⟩, ⟨⟨_, rfl, rfl, rfl, rfl, by decide +kernel⟩⟩, ⟨⟨_, rfl, rfl, rfl, rfl, by decide +kernel⟩⟩, ⟨⟨_, rfl, rfl, rfl, rfl, by decide +kernel⟩⟩, ⟨⟨_, rfl, rfl, rfl, rfl, by decide +kernel⟩⟩, ⟨⟨_, rfl, rfl, rfl, rfl, by decide +kernel⟩⟩, ⟨⟨_, rfl, rfl, rfl, rfl, by decide +kernel⟩⟩, ⟨⟨_, rfl, rfl, rfl, rfl, by decide +kernel⟩⟩, ⟨⟨_, rfl, rfl, rfl, rfl, by decide +kernel⟩⟩, ⟨⟨_, rfl, rfl, rfl, rfl, by decide +kernel⟩⟩, ⟨⟨_, rfl, rfl, rfl, rfl, by decide +kernel⟩⟩, ⟨⟨_, rfl, rfl, rfl, rfl, by decide +kernel⟩⟩, ⟨⟨_, rfl, rfl, rfl, rfl, by decide +kernel⟩⟩, ⟨⟨_, rfl, rfl, rfl, rfl, by decide +kernel⟩⟩, ⟨⟨_, rfl, rfl, rfl, rfl, by decide +kernel⟩⟩, ⟨⟨_, rfl, rfl, rfl, rfl, by decide +kernel⟩⟩, ⟨⟨_, rfl, rfl, rfl, rfl, by decide +kernel⟩⟩, ⟨⟨_, rfl, rfl, rfl, rfl, by decide +kernel⟩⟩, ⟨⟨_, rfl, rfl, rfl, rfl, by decide +kernel⟩⟩, ⟨⟨_, rfl, rfl, rfl, rfl, by decide +kernel⟩⟩, ⟨⟨_, rfl, rfl, rfl, rfl, by decide +kernel⟩⟩, ⟨⟨_, rfl, rfl, rfl, rfl, by decide +kernel⟩⟩⟩ rfl (by decide +kernel) rfl (by decide +kernel) mixed rfl rfl rfl rfl (by omega) hnb a0 a1 a2 a3 a4 a5 am H1 (fun W => (H2 W).mono fun _ _ h => ⟨h.1, h.2 ▸ Mod.refl _ _⟩) (fun W => (H3 W).mono fun _ _ h => ⟨h.1, h.2 ▸ Mod.refl _ _⟩) ?_
        intro w1 hm1
        simp only [puts, Act.put, List.setIfInBounds_toArray, List.set_cons_succ, List.set_cons_zero]
        replace hM := hM.trans hm1 (V := fun _ => False) (fun _ _ h => h) (fun _ _ h => h)
        go_wp2
        have hRT := HR.out
        subst hRT
        go_ret
        exact ⟨rfl, hM⟩
      case true =>
      cases c4'
      case false =>
        have HR : Hid (R = false) := by show _ = _; have := hR'.out; simp at this; exact this
        clear hR'
        refine region44 g mb mo m.length mcap k en os od ar hh ck en ⟨⟨⟨_, rfl, rfl, rfl, rfl, by decide +kernel⟩⟩, ⟨⟨_, rfl, rfl, rfl, rfl, by decide +kernel⟩⟩, ⟨⟨_, rfl, rfl, rfl, rfl, by decide +kernel⟩⟩, ⟨⟨_, rfl, rfl, rfl, rfl, by decide +kernel⟩⟩, ⟨⟨_, rfl, rfl, rfl, rfl, by decide +kernel⟩⟩, ⟨⟨_, rfl, rfl, rfl, rfl, by decide +kernel⟩⟩, ⟨⟨_, rfl, rfl, rfl, rfl, by decide +kernel⟩⟩, ⟨⟨_, rfl, rfl, rfl, rfl, by decide +kernel⟩⟩, ⟨⟨_, rfl, rfl, rfl, rfl, by decide +kernel⟩⟩, ⟨⟨_, rfl, rfl, rfl, rfl, by decide +kernel⟩⟩, ⟨⟨_, rfl, rfl, rfl, rfl, by decide +kernel⟩⟩, ⟨⟨_, rfl, rfl, rfl, rfl, by decide +kernel⟩⟩, ⟨⟨_, rfl, rfl, rfl, rfl, by decide +kernel⟩⟩, ⟨⟨_, rfl, rfl, rfl, rfl, by decide +kernel⟩⟩, ⟨⟨_, rfl, rfl, rfl, rfl, by decide +kernel⟩⟩, ⟨⟨_, rfl, rfl, rfl, rfl, by decide +kernel⟩⟩, ⟨⟨_, rfl, rfl, rfl, rfl, by decide +kernel⟩⟩, ⟨⟨_, rfl, rfl, rfl, rfl, by decide +kernel⟩⟩, ⟨⟨_, rfl, rfl, rfl, rfl, by decide +kernel⟩⟩, ⟨⟨_, rfl, rfl, rfl, rfl, by decide +kernel⟩⟩, ⟨⟨_, rfl, rfl, rfl, rfl, by decide +kernel⟩⟩, ⟨⟨_, rfl, rfl, rfl, rfl, by decide +kernel⟩⟩, ⟨⟨_, rfl, rfl, rfl, rfl, by decide +kernel⟩⟩, ⟨⟨_, rfl, rfl, rfl, rfl, by decide +kernel⟩⟩, ⟨⟨_, rfl, rfl, rfl, rfl, by decide +kernel⟩⟩, ⟨⟨_, rfl, rfl, rfl, rfl, by decide +kernel⟩⟩, ⟨⟨_, rfl, rfl, rfl, rfl, by decide +kernel⟩⟩, ⟨⟨_, rfl, rfl, rfl, rfl, by decide +kernel⟩⟩, ⟨⟨_, rfl, rfl, rfl, rfl, by decide +kernel⟩⟩, ⟨⟨_, rfl, rfl, rfl, rfl, by decide +kernel⟩⟩, ⟨⟨_, rfl, rfl, rfl, rfl, by decide +kernel⟩⟩, ⟨⟨_, rfl, rfl, rfl, rfl, by decide +kernel⟩⟩, ⟨⟨_, rfl, rfl, rfl, rfl, by decide +kernel⟩⟩⟩ rfl (by decide +kernel) rfl (by decide +kernel) mixed rfl rfl rfl rfl (by omega) hnb a0 a1 a2 a3 a4 a5 am H1 (fun W => (H2 W).mono fun _ _ h => ⟨h.1, h.2 ▸ Mod.refl _ _⟩) (fun W => (H3 W).mono fun _ _ h => ⟨h.1, h.2 ▸ Mod.refl _ _⟩) (fun W => (H4 W).mono fun _ _ h => ⟨h.1, h.2 ▸ Mod.refl _ _⟩) ?_
        intro w1 hm1
        simp only [puts, Act.put, List.setIfInBounds_toArray, List.set_cons_succ, List.set_cons_zero]
        replace hM := hM.trans hm1 (V := fun _ => False) (fun _ _ h => h) (fun _ _ h => h)
        go_wp2
        have hRT := HR.out
        subst hRT
        go_ret
        exact ⟨rfl, hM⟩
      case true =>
      have HR : Hid (R = mbs (l.drop (k + 1)) (m.drop (k + 1))) := by show _ = _; have := hR'.out; simpa using this
      clear hR'
      refine region45 g mb mo m.length mcap k en os od ar hh ck en ⟨⟨⟨_, rfl, rfl, rfl, rfl, by decide +kernel⟩⟩, ⟨⟨_, rfl, rfl, rfl, rfl, by decide +kernel⟩⟩, ⟨⟨_, rfl, rfl, rfl, rfl, by decide +kernel⟩⟩, ⟨⟨_, rfl, rfl, rfl, rfl, by decide +kernel⟩⟩, ⟨⟨_, rfl, rfl, rfl, rfl, by decide +kernel⟩⟩, ⟨⟨_, rfl, rfl, rfl, rfl, by decide +kernel⟩⟩, ⟨⟨_, rfl, rfl, rfl, rfl, by decide +kernel⟩⟩, ⟨⟨_, rfl, rfl, rfl, rfl, by decide +kernel⟩⟩, ⟨⟨_, rfl, rfl, rfl, rfl, by decide +kernel⟩⟩, ⟨⟨_, rfl, rfl, rfl, rfl, by decide +kernel⟩⟩, ⟨⟨_, rfl, rfl, rfl, rfl, by decide +kernel⟩⟩, ⟨⟨_, rfl, rfl, rfl, rfl, by decide +kernel⟩⟩, ⟨⟨_, rfl, rfl, rfl, rfl, by decide +kernel⟩⟩, ⟨⟨_, rfl, rfl, rfl, rfl, by decide +kernel⟩⟩, ⟨⟨_, rfl, rfl, rfl, rfl, by decide +kernel⟩⟩, ⟨⟨_, rfl, rfl, rfl, rfl, by decide +kernel⟩⟩, ⟨⟨_, rfl, rfl, rfl, rfl, by decide +kernel⟩⟩, ⟨⟨_, rfl, rfl, rfl, rfl, by decide +kernel⟩⟩, ⟨⟨_, rfl, rfl, rfl, rfl, by decide +kernel⟩⟩, ⟨⟨_, rfl, rfl, rfl, rfl, by decide +kernel⟩⟩, ⟨⟨_, rfl, rfl, rfl, rfl, by decide +kernel⟩⟩, ⟨⟨_, rfl, rfl, rfl, rfl, by decide +kernel⟩⟩, ⟨⟨_, rfl, rfl, rfl, rfl, by decide +kernel⟩⟩, ⟨⟨_, rfl, rfl, rfl, rfl, by decide +kernel⟩⟩, ⟨⟨_, rfl, rfl, rfl, rfl, by decide +kernel⟩⟩, ⟨⟨_, rfl, rfl, rfl, rfl, by decide +kernel⟩⟩, ⟨⟨_, rfl, rfl, rfl, rfl, by decide +kernel⟩⟩, ⟨⟨_, rfl, rfl, rfl, rfl, by decide +kernel⟩⟩, ⟨⟨_, rfl, rfl, rfl, rfl, by decide +kernel⟩⟩, ⟨⟨_, rfl, rfl, rfl, rfl, by decide +kernel⟩⟩, ⟨⟨_, rfl, rfl, rfl, rfl, by decide +kernel⟩⟩, ⟨⟨_, rfl, rfl, rfl, rfl, by decide +kernel⟩⟩, ⟨⟨_, rfl, rfl, rfl, rfl, by decide +kernel⟩⟩⟩ rfl (by decide +kernel) rfl (by decide +kernel) mixed rfl rfl rfl rfl (by omega) hnb a0 a1 a2 a3 a4 a5 am H1 (fun W => (H2 W).mono fun _ _ h => ⟨h.1, h.2 ▸ Mod.refl _ _⟩) (fun W => (H3 W).mono fun _ _ h => ⟨h.1, h.2 ▸ Mod.refl _ _⟩) (fun W => (H4 W).mono fun _ _ h => ⟨h.1, h.2 ▸ Mod.refl _ _⟩) ?_
      intro w1 hm1
      simp only [puts, Act.put, List.setIfInBounds_toArray, List.set_cons_succ, List.set_cons_zero]
      replace hM := hM.trans hm1 (V := fun _ => False) (fun _ _ h => h) (fun _ _ h => h)
      go_wp2
      go_roundw
      case rel => exact ⟨k + 1, by go_num, by omega, HR, hM⟩
      case measure => simp [intOf]; omega
    · have HR : Hid (R = true) := by show _ = _; have := hR'.out; rw [List.drop_eq_nil_of_le (by omega)] at this; exact this
      clear hR' h4 q4
      go_wp2
      have hRT := HR.out
      subst hRT
      go_ret
      exact ⟨rfl, hMw.out⟩
end Go.Proofs.Ytajhpnfpjickbaa
