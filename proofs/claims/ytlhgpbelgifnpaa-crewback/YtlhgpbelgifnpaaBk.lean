/- What CrewBack asks of plain numbers: the crew of some nodes has each of them, and no more than they are. No conditions. -/
import Derived.Test.YtlhgpbelgifnpaaRf
namespace Go.Proofs.Ytlhgpbelgifnpaa
theorem or_510 : ∀ a : Fin 512, ∀ n : Fin 9, n.val ≠ 0 → a.val &&& 510 = a.val → (a.val ||| 2 ^ n.val) &&& 510 = a.val ||| 2 ^ n.val := by decide +kernel
theorem hs_or (a n j : Nat) (h : hs a j = true) : hs (a ||| 2 ^ n) j = true := by
  simp only [hs, Bool.and_eq_true] at h ⊢
  exact ⟨h.1, h.2.1, by rw [Nat.testBit_or, h.2.2, Bool.true_or]⟩
theorem hs_self (a n : Nat) (h1 : 1 ≤ n) (h2 : n ≤ 8) : hs (a ||| 2 ^ n) n = true := by
  simp only [hs, Bool.and_eq_true]
  exact ⟨Nat.ble_eq_true_of_le h1, Nat.ble_eq_true_of_le h2, by rw [Nat.testBit_or, Nat.testBit_two_pow_self, Bool.or_true]⟩
theorem off_spec : ∀ (l : List Int) (a : Nat), a < 512 → a &&& 510 = a → (∀ n ∈ l, node n = true) → ∃ Y, off a l = some Y ∧ Y < 512 ∧ Y &&& 510 = Y ∧ (∀ j, hs a j = true → hs Y j = true) ∧ (∀ n ∈ l, hs Y n.toNat = true) ∧ cn Y ≤ cn a + l.length
  | [], a, ha, h5, _ => ⟨a, rfl, ha, h5, fun _ h => h, by simp, by simp⟩
  | n :: l, a, ha, h5, hl => by
    have hn := hl n (List.mem_cons_self ..)
    have hnn : 1 ≤ n ∧ n < 9 := by simpa [node] using hn
    have h2 := two_lt hn
    have ha2 : a ||| 2 ^ n.toNat < 512 := Nat.or_lt_two_pow (n := 9) ha h2
    have h52 := or_510 ⟨a, ha⟩ ⟨n.toNat, by omega⟩ (by show n.toNat ≠ 0; omega) h5
    have hc := cn_or ⟨a, ha⟩ ⟨n.toNat, by omega⟩
    simp only at h52 hc
    obtain ⟨Y, e, hY, hY5, hk, hm, hcn⟩ := off_spec l (a ||| 2 ^ n.toNat) ha2 h52 (fun x hx => hl x (List.mem_cons_of_mem _ hx))
    refine ⟨Y, by rw [off, if_pos hn]; exact e, hY, hY5, fun j hj => hk j (hs_or _ _ _ hj), ?_, by simp only [List.length_cons]; omega⟩
    intro x hx
    rcases List.mem_cons.1 hx with rfl | hx
    · exact hk _ (hs_self _ _ (by omega) (by omega))
    · exact hm x hx
/-- Numbers brought to 1 to 8. -/
def nd (x : Int) : Int := 1 + x % 8
theorem nd_node (x : Int) : node (nd x) = true := by
  show (decide (1 ≤ 1 + x % 8) && decide (1 + x % 8 < 9)) = true
  rw [decide_eq_true (by omega), decide_eq_true (by omega)]
  rfl
theorem rising_at : ∀ (l : List Int) (i : Nat), rising l = true → i + 1 < l.length → l.getD i 0 < l.getD (i + 1) 0
  | [], i, _, h => by simp at h
  | [a], i, _, h => by simp at h
  | a :: b :: l, 0, hr, _ => by
    simp only [rising, Bool.and_eq_true, decide_eq_true_eq] at hr
    simpa using hr.1
  | a :: b :: l, i + 1, hr, h => by
    simp only [rising, Bool.and_eq_true, decide_eq_true_eq] at hr
    have := rising_at (b :: l) i hr.2 (by simp at h ⊢; omega)
    simpa using this
theorem ls_at {m : Nat} (hm : m < 512) {i : Nat} (hi : i < (ls m).length) : 1 ≤ (ls m).getD i 0 ∧ (ls m).getD i 0 ≤ 8 ∧ hs m ((ls m).getD i 0).toNat = true := by
  have h := ls_node ⟨m, hm⟩
  simp only [List.all_eq_true, Bool.and_eq_true, decide_eq_true_eq] at h
  have hmem : (ls m).getD i 0 ∈ ls m := by
    rw [show (ls m).getD i 0 = (ls m)[i] by simp [hi]]
    exact List.getElem_mem hi
  have := h _ hmem
  exact ⟨this.1.1, this.1.2, this.2⟩
theorem chk_zero {Y : Nat} (h : Y < 512) (h5 : Y &&& 510 = Y) : chk (Y : Int) = 0 := by
  rw [chk, lo_nat h, h5, if_pos rfl]
end Go.Proofs.Ytlhgpbelgifnpaa
