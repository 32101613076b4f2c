/- ChangeSame holds. No conditions. -/
import Derived.Test.YtampdkbcijdpcaaBp
namespace Go.Proofs.Ytampdkbcijdpcaa
open Go.RowKit Go.Maps
/-- All that is delivered and told of m numbers and of the data ab above these. -/
def tot (J : Int → Option Dt) (kin : Int) (m : Nat) (ab : List Dt) : List Int := (dl J 0 m).map (·.n) ++ (lf kin true (m : Int) ab).map (·.n)
def gt (J : Int → Option Dt) (k : Int) : Dt := (J k).getD d0
theorem tot_step {J : Int → Option Dt} {kin : Int} {m : Nat} {d : Dt} (hd : J ((m : Int) + 1) = some d) (hn : d.n = (m : Int) + 1) (r : List Dt) : tot J kin m (d :: r) = tot J kin (m + 1) r := by
  have h1 : dl J 0 (m + 1) = dl J 0 m ++ msg d := by
    rw [dl]
    congr 1
    rw [Int.zero_add, dk, hd]
    rfl
  have h2 : lf kin true (m : Int) (d :: r) = msg d ++ lf kin true ((m + 1 : Nat) : Int) r := by
    rw [lf, hn]
    simp
  rw [tot, tot, h1, h2]
  simp
theorem Ks.head {J : Int → Option Dt} {m : Int} {zs : List Int} (hk : Ks J m zs) (hs : (J (m + 1)).isSome = true) : ∃ z1, Ks J (m + 1) z1 ∧ zs = (m + 1) :: z1 := by
  have h1 : Ks J (m + 1) (zs.filter fun x => decide (m + 1 < x)) := ⟨hk.up.sublist List.filter_sublist, fun x => by
    rw [List.mem_filter, hk.mem, decide_eq_true_eq]
    exact ⟨fun h => ⟨h.2, h.1.2⟩, fun h => ⟨⟨by omega, h.2⟩, h.1⟩⟩⟩
  have h2 : Ks J m ((m + 1) :: (zs.filter fun x => decide (m + 1 < x))) := ⟨List.pairwise_cons.2 ⟨fun x hx => ((h1.mem x).1 hx).1, h1.up⟩, fun x => by
    rw [List.mem_cons, h1.mem]
    constructor
    · rintro (rfl | h)
      · exact ⟨by omega, hs⟩
      · exact ⟨by omega, h.2⟩
    · rintro ⟨h3, h4⟩
      rcases Int.lt_or_le (m + 1) x with h5 | h5
      · exact .inr ⟨h5, h4⟩
      · exact .inl (by omega)⟩
  exact ⟨_, h1, hk.uniq h2 (fun _ => rfl)⟩
theorem tot_all {J : Int → Option Dt} {a h kin : Int} (hp : Wp J a h) {z0 : List Int} (h0 : Ks J a z0) : ∀ (f m : Nat) (zs : List Int), a = ((m + f : Nat) : Int) → Ks J m zs → tot J kin m (zs.map (gt J)) = tot J kin a.toNat (z0.map (gt J))
  | 0, m, zs, ha, hk => by
    have e : a.toNat = m := by omega
    have e2 : a = (m : Int) := by omega
    rw [e2] at h0
    rw [e, hk.uniq h0 (fun _ => rfl)]
  | f + 1, m, zs, ha, hk => by
    have hs := hp.aru.2.1 ((m : Int) + 1) (by omega) (by omega)
    obtain ⟨z1, h1, rfl⟩ := hk.head hs
    obtain ⟨d, hd⟩ := Option.isSome_iff_exists.1 hs
    have hn := (hp.each _ d hd).1
    rw [List.map_cons, show gt J ((m : Int) + 1) = d by simp [gt, hd], tot_step hd hn]
    exact tot_all hp h0 f (m + 1) z1 (by omega) (by simpa using h1)
theorem dl_add {J : Int → Option Dt} {t : Nat} : ∀ k : Nat, dl J 0 t ++ dl J t k = dl J 0 (t + k)
  | 0 => by simp [dl]
  | k + 1 => by
    rw [dl, ← List.append_assoc, dl_add k, ← Nat.add_assoc, dl]
    congr 2
    omega
theorem pos_all {ds : List Dt} (h : ∀ d ∈ ds, 1 ≤ d.n) : pos (ds.map fun d => evN (evD d)) = ds.map (·.n) := by
  rw [pos, show (ds.map fun d => evN (evD d)) = ds.map (·.n) from rfl, List.filter_eq_self]
  intro x hx
  obtain ⟨d, hd, rfl⟩ := List.mem_map.1 hx
  have := h d hd
  simp
  omega
/-- What was delivered, and what is told then. -/
theorem same_tot {J : Int → Option Dt} {a h : Int} (hp : Wp J a h) {c x : Cg} {kin : Int} {t k : Nat} {zs : List Int} (hks : Ks J ((t : Int) + (k : Int)) zs) : (dl J 0 t).map (·.n) ++ pos ((tld J c x kin t k (zs.map (fun k => (J k).getD d0))).map evN) = tot J kin (t + k) (zs.map (gt J)) := by
  have h1 : ∀ d ∈ dl J t k, 1 ≤ d.n := fun d hd => by
    obtain ⟨i, _, h2, _⟩ := dl_mem hd
    have := hp.each _ d h2
    omega
  have h2 : ∀ d ∈ lf kin true ((t : Int) + (k : Int)) (zs.map (gt J)), 1 ≤ d.n := fun d hd => by
    obtain ⟨z, hz, rfl⟩ := List.mem_map.1 ((lf_sub _ _ _ _).subset hd)
    obtain ⟨_, h4⟩ := (hks.mem z).1 hz
    obtain ⟨e, he⟩ := Option.isSome_iff_exists.1 h4
    have := hp.each z e he
    simp only [gt, he, Option.getD_some]
    omega
  have h3 : pos ((tld J c x kin t k (zs.map (fun k => (J k).getD d0))).map evN) = (dl J t k).map (·.n) ++ (lf kin true ((t : Int) + (k : Int)) (zs.map (gt J))).map (·.n) := by
    rw [tld, List.map_append, List.map_cons, List.map_append, List.map_map, List.map_map, pos, List.filter_append, List.filter_cons, List.filter_append]
    rw [show evN (evC (cgT c x kin)) = 0 by simp [evN, evC, cgT]]
    rw [if_neg (by simp)]
    rw [show List.filter (fun x => decide ((0 : Int) < x)) ([evC (cgN x)].map evN) = [] by simp [evN, evC, cgN]]
    rw [List.append_nil]
    congr 1
    · exact pos_all h1
    · exact pos_all h2
  rw [h3, tot, ← List.append_assoc, ← List.map_append, dl_add]
  rfl
theorem same_eq {J : Int → Option Dt} {a h : Int} (hp : Wp J a h) {kin : Int} {m m' : Nat} {zs zs' : List Int} (hm : (m : Int) ≤ a) (hm' : (m' : Int) ≤ a) (hk : Ks J m zs) (hk' : Ks J m' zs') {z0 : List Int} (h0 : Ks J a z0) : tot J kin m (zs.map (gt J)) = tot J kin m' (zs'.map (gt J)) := by
  rw [tot_all hp h0 (a.toNat - m) m zs (by omega) hk, tot_all hp h0 (a.toNat - m') m' zs' (by omega) hk']
end Go.Proofs.Ytampdkbcijdpcaa
