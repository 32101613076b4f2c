/- The program's timers: what New, check, Left, Set, Clear, Fire and Tick answer, and what they leave, of timers that New made; of none. Conditions: kinds and ticks that are ints. -/
import Derived.Test.YtkbncndinfimnaaMem
import Derived.Deep.QuietTactic
import Derived.BigQuiet
namespace Go.Proofs.Ytkbncndinfimnaa
open Go.RowKit
theorem info3 : (Try.prog.info? 3).map (fun i => (i.zero, i.size, i.bytes)) = some (some (.int .i64 0), 1, 8) := by kernel_rfl
theorem add_at (b off j : Nat) : (⟨b, off, none⟩ : Addr).add j = ⟨b, off + j, none⟩ := by
  unfold Addr.add
  by_cases h : j = 0 <;> simp [h]
/-- One int that was just laid. -/
theorem app1 (w : World) (c : Int) (t : TypeId) : ∀ j u, [Value.int .i64 c][j]? = some u → (w.alloc (.cells #[.int .i64 c] t)).cell? ((⟨w.heap.size, 0, none⟩ : Addr).add j) = some u := by
  intro j u hj
  match j, hj with
  | 0, hj => simp at hj; subst hj; simp [Addr.add]
  | j + 1, hj => simp at hj
theorem Own.one {S : Nat → Prop} {w wr w1 : World} {g cap : Nat} {v' : Value} {l' : List Int} {c : Int} {t : TypeId} (hm : Mod S w wr) (hv : New w v')
    (hown : w1.ownsRow 0 3 1 (.slice (some ⟨g, 0, none⟩) (l'.length + 1) cap) (l'.length + 1) (U l' ++ [.int .i64 c]))
    (hgrow : (wr.alloc (.cells #[.int .i64 c] t)).grownBy w1 v'.ownBlock) (hg : v'.ownBlock = some g ∨ g = wr.heap.size + 1) :
    Own w1 (.slice (some ⟨g, 0, none⟩) (l'.length + 1) cap) (l' ++ [c]) ∧ Mod S w w1 ∧ New w (Value.slice (some ⟨g, 0, none⟩) (l'.length + 1) cap) := by
  refine ⟨?_, (hm.alloc _).grown hgrow (fun k hk hlt => by have := hv k hk; omega), ?_⟩
  · unfold Own
    rw [U_app]
    simpa [U] using hown
  · intro g' hg'
    simp only [Value.ownBlock, Option.some.injEq] at hg'
    subst hg'
    rcases hg with h | h
    · exact hv _ h
    · have := hm.size
      omega

/-- delete at the operation, out of what its run leaves. -/
theorem wpList_delete_run {P : Program} (w : World) {ops : Array Oper} {rest : List Oper} {o : Oper} {a : Act} {Q : Exit → Act → World → Prop} (hg : o.guard = none) (m x : Operand) (t k : TypeId) (hop : o.op = Op.call { callee := Callee.builtin Builtin.delete, args := #[m, x], argTypes := #[t, k] })
    (mv key : Value) (hm : a.eval m = mv) (hx : a.eval x = key) {R : World → Prop} (hd : ∃ w', (Builtin.delete_ #[t, k] o.type #[mv, key]).run P w = .ok (.tuple #[]) w' ∧ R w')
    (hK : ∀ w', R w' → wpList P ops Q rest (a.put o.dst (.tuple #[])) w') : wpList P ops Q (o :: rest) a w := by
  refine wpList_plain hg fun K' hK' => ?_
  obtain ⟨w', hrun, r⟩ := hd
  unfold Oper.wp
  simp [execOp, hop, resolve, invoke, builtin, hm, hx, hrun, Result.andThen]
  exact hK' _ _ (hK w' r)
theorem New_bad (n : Int) (w : World) (h : n < 1 ∨ 16 < n) : Calls Try.prog 7 #[.int .i64 n] w fun e w' => e = .returned (.tuple #[.pointer none, .int .i64 2]) ∧ w' = w := by
  have h' : n < 1 ∨ (¬ n < 1 ∧ 16 < n) := by omega
  clear h
  rcases h' with h | ⟨h, h2⟩
  all_goals
    go_enter Try.func7, Try.ntmps7
    go_wp2
    go_ret2
    exact ⟨rfl, rfl⟩
theorem New_ok (n : Nat) (w : World) (h : ¬ (n : Int) < 1) (h2 : ¬ 16 < (n : Int)) : Calls Try.prog 7 #[.int .i64 n] w fun e w' => ∃ p B, e = .returned (.tuple #[.pointer (some ⟨p, 0, none⟩), .int .i64 0]) ∧ Al w' p B n (fun _ => 0) ∧ Mod (fun _ => False) w w' ∧ w.heap.size ≤ p ∧ w.heap.size ≤ B := by
  have hmm := @run_makeMap Try.prog
  go_enter Try.func7, Try.ntmps7
  go_wp2
  go_ret2
  exact ⟨_, rfl, w.heap.size, ⟨by have := heap_alloc_new (w.alloc (Obj.map #[] 0)) (Obj.cells #[.int .i64 n, .map (some w.heap.size)] 50); simpa using this, (Mp.new w n).mod ((Mod.refl (fun _ => False) _).alloc _) (fun h => h)⟩, ((Mod.refl _ _).alloc _).alloc _, by omega, Nat.le_refl _⟩

theorem isNone_any (p B n : Nat) (f : Int → Int) (w : World) (h : Al w p B n f) (hn : 1 ≤ n) : Calls Try.prog 25 #[.pointer (some ⟨p, 0, none⟩)] w fun e w' => e = .returned (.bool false) ∧ w' = w := by
  have c0 := h.c0
  have e0 : ((n : Int) == 0) = false := by simp; omega
  clear h hn
  go_enter Try.func25, Try.ntmps25
  go_wp2
  go_ret
  exact ⟨rfl, rfl⟩
theorem isNone_nil (w : World) : Calls Try.prog 25 #[.pointer none] w fun e w' => e = .returned (.bool true) ∧ w' = w := by
  go_enter Try.func25, Try.ntmps25
  go_wp2
  go_ret
  exact ⟨rfl, rfl⟩
/-- What check answers. -/
def kE (n : Nat) (k : Int) : Int := if k < 0 ∨ (n : Int) ≤ k then 2 else 0
theorem check_any (p B n : Nat) (f : Int → Int) (k : Int) (w : World) (h : Al w p B n f) (hn : 1 ≤ n) : Calls Try.prog 23 #[.pointer (some ⟨p, 0, none⟩), .int .i64 k] w fun e w' => e = .returned (.int .i64 (kE n k)) ∧ w' = w := by
  have hN := isNone_any p B n f w h hn
  have c0 := h.c0
  have hk : (kE n k = 2 ∧ k < 0) ∨ (kE n k = 2 ∧ ¬ k < 0 ∧ (n : Int) ≤ k) ∨ (kE n k = 0 ∧ ¬ k < 0 ∧ ¬ (n : Int) ≤ k) := by
    unfold kE
    split <;> omega
  clear h hn
  generalize kE n k = E at hk
  rcases hk with ⟨rfl, h1⟩ | ⟨rfl, h1, h2⟩ | ⟨rfl, h1, h2⟩
  all_goals
    go_enter Try.func23, Try.ntmps23
    go_wp2_with (go_at_call 25; refine hN.mono ?_; rintro e w' ⟨rfl, rfl⟩)
    go_ret
    exact ⟨rfl, rfl⟩
theorem Left_any (p B n : Nat) (f : Int → Int) (k : Int) (w : World) (h : Al w p B n f) (hn : 1 ≤ n) (hk : I64 k) : Calls Try.prog 20 #[.pointer (some ⟨p, 0, none⟩), .int .i64 k] w fun e w' => e = .returned (.int .i64 (f k)) ∧ w' = w := by
  have hN := isNone_any p B n f w h hn
  have c1 := h.c1
  have hl := h.map.look hk
  clear h hn hk
  generalize f k = y at hl
  go_enter Try.func20, Try.ntmps20
  go_wp2_with (go_at_call 25; refine hN.mono ?_; rintro e w' ⟨rfl, rfl⟩)
  go_ret
  exact ⟨rfl, rfl⟩
/-- Set: what is answered, and what is left. -/
def sE (n : Nat) (k t : Int) : Int := if k < 0 ∨ (n : Int) ≤ k ∨ t < 1 ∨ 10000 < t then 2 else 0
def sF (n : Nat) (f : Int → Int) (k t : Int) : Int → Int := if k < 0 ∨ (n : Int) ≤ k ∨ t < 1 ∨ 10000 < t then f else upd f k t
theorem Set_kind (p B n : Nat) (f : Int → Int) (k t : Int) (w : World) (h : Al w p B n f) (hn : 1 ≤ n) (hk : k < 0 ∨ (n : Int) ≤ k) : Calls Try.prog 10 #[.pointer (some ⟨p, 0, none⟩), .int .i64 k, .int .i64 t] w fun e w' => e = .returned (.int .i64 2) ∧ w' = w := by
  have hC := check_any p B n f k w h hn
  rw [kE, if_pos hk] at hC
  clear h hn hk
  go_enter Try.func10, Try.ntmps10
  go_wp2_with (go_at_call 23; refine hC.mono ?_; rintro e w' ⟨rfl, rfl⟩)
  go_ret
  exact ⟨rfl, rfl⟩
theorem Set_ticks (p B n : Nat) (f : Int → Int) (k t : Int) (w : World) (h : Al w p B n f) (hn : 1 ≤ n) (hk : ¬ (k < 0 ∨ (n : Int) ≤ k)) (ht : t < 1 ∨ 10000 < t) : Calls Try.prog 10 #[.pointer (some ⟨p, 0, none⟩), .int .i64 k, .int .i64 t] w fun e w' => e = .returned (.int .i64 2) ∧ w' = w := by
  have hC := check_any p B n f k w h hn
  rw [kE, if_neg hk] at hC
  clear h hn hk
  have ht' : t < 1 ∨ (¬ t < 1 ∧ 10000 < t) := by omega
  clear ht
  rcases ht' with h | ⟨h, h2⟩
  all_goals
    go_enter Try.func10, Try.ntmps10
    go_wp2_with (go_at_call 23; refine hC.mono ?_; rintro e w' ⟨rfl, rfl⟩)
    go_ret
    exact ⟨rfl, rfl⟩
theorem Set_ok (p B n k : Nat) (f : Int → Int) (t : Int) (w : World) (h : Al w p B n f) (hn : 1 ≤ n) (hn2 : n ≤ 16) (hk : k < n) (h1 : ¬ t < 1) (h2 : ¬ 10000 < t) : Calls Try.prog 10 #[.pointer (some ⟨p, 0, none⟩), .int .i64 k, .int .i64 t] w fun e w' => e = .returned (.int .i64 0) ∧ Al w' p B n (upd f k t) ∧ Mod (fun i => i = B) w w' := by
  have hC := check_any p B n f k w h hn
  rw [kE, if_neg (by omega)] at hC
  have c1 := h.c1
  obtain ⟨w2, hrun, hp, ht⟩ := h.map.store hk hn2 (t := t) (by unfold I64; omega)
  have hA := h.turned ht hp
  have hm := (Mod.refl (fun i => i = B) w).turned ht (.inl rfl)
  clear h hn hn2 hk hp ht
  go_enter Try.func10, Try.ntmps10
  go_wp2_with (go_at_call 23; refine hC.mono ?_; rintro e w' ⟨rfl, rfl⟩)
  go_ret
  exact ⟨rfl, hA, hm⟩
theorem Set_any (p B n : Nat) (f : Int → Int) (k t : Int) (w : World) (h : Al w p B n f) (hn : 1 ≤ n) (hn2 : n ≤ 16) : Calls Try.prog 10 #[.pointer (some ⟨p, 0, none⟩), .int .i64 k, .int .i64 t] w fun e w' => e = .returned (.int .i64 (sE n k t)) ∧ Al w' p B n (sF n f k t) ∧ Mod (fun i => i = B) w w' := by
  rcases Classical.em (k < 0 ∨ (n : Int) ≤ k) with hk | hk
  · have e : k < 0 ∨ (n : Int) ≤ k ∨ t < 1 ∨ 10000 < t := by omega
    rw [sE, sF, if_pos e, if_pos e]
    refine (Set_kind p B n f k t w h hn hk).mono ?_
    rintro e w' ⟨rfl, rfl⟩
    exact ⟨rfl, h, Mod.refl _ _⟩
  · rcases Classical.em (t < 1 ∨ 10000 < t) with ht | ht
    · have e : k < 0 ∨ (n : Int) ≤ k ∨ t < 1 ∨ 10000 < t := by omega
      rw [sE, sF, if_pos e, if_pos e]
      refine (Set_ticks p B n f k t w h hn hk ht).mono ?_
      rintro e w' ⟨rfl, rfl⟩
      exact ⟨rfl, h, Mod.refl _ _⟩
    · have e : ¬ (k < 0 ∨ (n : Int) ≤ k ∨ t < 1 ∨ 10000 < t) := by omega
      rw [sE, sF, if_neg e, if_neg e]
      obtain ⟨j, rfl⟩ : ∃ j : Nat, k = j := ⟨k.toNat, by omega⟩
      exact Set_ok p B n j f t w h hn hn2 (by omega) (by omega) (by omega)
theorem Clear_kind (p B n : Nat) (f : Int → Int) (k : Int) (w : World) (h : Al w p B n f) (hn : 1 ≤ n) (hk : k < 0 ∨ (n : Int) ≤ k) : Calls Try.prog 13 #[.pointer (some ⟨p, 0, none⟩), .int .i64 k] w fun e w' => e = .returned (.int .i64 2) ∧ w' = w := by
  have hC := check_any p B n f k w h hn
  rw [kE, if_pos hk] at hC
  clear h hn hk
  go_enter Try.func13, Try.ntmps13
  go_wp2_with (go_at_call 23; refine hC.mono ?_; rintro e w' ⟨rfl, rfl⟩)
  go_ret
  exact ⟨rfl, rfl⟩
theorem Clear_ok (p B n : Nat) (f : Int → Int) (k : Int) (w : World) (h : Al w p B n f) (hn : 1 ≤ n) (hi : I64 k) (hk : ¬ (k < 0 ∨ (n : Int) ≤ k)) : Calls Try.prog 13 #[.pointer (some ⟨p, 0, none⟩), .int .i64 k] w fun e w' => e = .returned (.int .i64 0) ∧ Al w' p B n (upd f k 0) ∧ Mod (fun i => i = B) w w' := by
  have hC := check_any p B n f k w h hn
  rw [kE, if_neg hk] at hC
  have c1 := h.c1
  have hd : ∀ ty, ∃ w', (Builtin.delete_ #[48, 3] ty #[.map (some B), .int .i64 k]).run Try.prog w = .ok (.tuple #[]) w' ∧ Al w' p B n (upd f k 0) ∧ Mod (fun i => i = B) w w' := fun ty => by
    obtain ⟨w2, hrun, hp, ht⟩ := h.map.drop hi ty
    exact ⟨w2, hrun, h.turned ht hp, (Mod.refl (fun i => i = B) w).turned ht (.inl rfl)⟩
  clear h hn hi hk
  go_enter Try.func13, Try.ntmps13
  go_wp2_with (first | (go_at_call 23; refine hC.mono ?_; rintro e w' ⟨rfl, rfl⟩) | (at_delete; refine wpList_delete_run _ rfl _ _ 48 3 rfl _ _ rfl rfl (hd _) ?_; rintro w2 ⟨hA, hm⟩))
  go_ret
  exact ⟨rfl, hA, hm⟩
/-- Clear and Fire: what is left. -/
def cF (n : Nat) (f : Int → Int) (k : Int) : Int → Int := if k < 0 ∨ (n : Int) ≤ k then f else upd f k 0
theorem Clear_any (p B n : Nat) (f : Int → Int) (k : Int) (w : World) (h : Al w p B n f) (hn : 1 ≤ n) (hi : I64 k) : Calls Try.prog 13 #[.pointer (some ⟨p, 0, none⟩), .int .i64 k] w fun e w' => e = .returned (.int .i64 (kE n k)) ∧ Al w' p B n (cF n f k) ∧ Mod (fun i => i = B) w w' := by
  rcases Classical.em (k < 0 ∨ (n : Int) ≤ k) with hk | hk
  · rw [kE, cF, if_pos hk, if_pos hk]
    refine (Clear_kind p B n f k w h hn hk).mono ?_
    rintro e w' ⟨rfl, rfl⟩
    exact ⟨rfl, h, Mod.refl _ _⟩
  · rw [kE, cF, if_neg hk, if_neg hk]
    exact Clear_ok p B n f k w h hn hi hk
/-- What Fire answers. -/
def fE (n : Nat) (f : Int → Int) (k : Int) : Int := if k < 0 ∨ (n : Int) ≤ k then 2 else if f k = 0 then 80 else 0
theorem Fire_kind (p B n : Nat) (f : Int → Int) (k : Int) (w : World) (h : Al w p B n f) (hn : 1 ≤ n) (hk : k < 0 ∨ (n : Int) ≤ k) : Calls Try.prog 15 #[.pointer (some ⟨p, 0, none⟩), .int .i64 k] w fun e w' => e = .returned (.int .i64 2) ∧ w' = w := by
  have hC := check_any p B n f k w h hn
  rw [kE, if_pos hk] at hC
  clear h hn hk
  go_enter Try.func15, Try.ntmps15
  go_wp2_with (go_at_call 23; refine hC.mono ?_; rintro e w' ⟨rfl, rfl⟩)
  go_ret
  exact ⟨rfl, rfl⟩
theorem Fire_not (p B n : Nat) (f : Int → Int) (k : Int) (w : World) (h : Al w p B n f) (hn : 1 ≤ n) (hi : I64 k) (hk : ¬ (k < 0 ∨ (n : Int) ≤ k)) (h0 : f k = 0) : Calls Try.prog 15 #[.pointer (some ⟨p, 0, none⟩), .int .i64 k] w fun e w' => e = .returned (.int .i64 80) ∧ w' = w := by
  have hC := check_any p B n f k w h hn
  rw [kE, if_neg hk] at hC
  have c1 := h.c1
  have hl := h.map.look hi
  rw [h0] at hl
  clear h hn hk h0
  go_enter Try.func15, Try.ntmps15
  go_wp2_with (go_at_call 23; refine hC.mono ?_; rintro e w' ⟨rfl, rfl⟩)
  go_ret
  exact ⟨rfl, rfl⟩
theorem Fire_ok (p B n : Nat) (f : Int → Int) (k : Int) (w : World) (h : Al w p B n f) (hn : 1 ≤ n) (hi : I64 k) (hk : ¬ (k < 0 ∨ (n : Int) ≤ k)) (h0 : ¬ f k = 0) : Calls Try.prog 15 #[.pointer (some ⟨p, 0, none⟩), .int .i64 k] w fun e w' => e = .returned (.int .i64 0) ∧ Al w' p B n (upd f k 0) ∧ Mod (fun i => i = B) w w' := by
  have hC := check_any p B n f k w h hn
  rw [kE, if_neg hk] at hC
  have c1 := h.c1
  have hl := h.map.look hi
  have hd : ∀ ty, ∃ w', (Builtin.delete_ #[48, 3] ty #[.map (some B), .int .i64 k]).run Try.prog w = .ok (.tuple #[]) w' ∧ Al w' p B n (upd f k 0) ∧ Mod (fun i => i = B) w w' := fun ty => by
    obtain ⟨w2, hrun, hp, ht⟩ := h.map.drop hi ty
    exact ⟨w2, hrun, h.turned ht hp, (Mod.refl (fun i => i = B) w).turned ht (.inl rfl)⟩
  have e0 : (f k == 0) = false := by simpa using h0
  generalize upd f k 0 = g at hd ⊢
  generalize f k = y at hl e0
  clear h hn hi hk h0
  go_enter Try.func15, Try.ntmps15
  go_wp2_with (first | (go_at_call 23; refine hC.mono ?_; rintro e w' ⟨rfl, rfl⟩) | (at_delete; refine wpList_delete_run _ rfl _ _ 48 3 rfl _ _ rfl rfl (hd _) ?_; rintro w2 ⟨hA, hm⟩))
  go_ret
  exact ⟨rfl, hA, hm⟩
theorem Fire_any (p B n : Nat) (f : Int → Int) (k : Int) (w : World) (h : Al w p B n f) (hn : 1 ≤ n) (hi : I64 k) : Calls Try.prog 15 #[.pointer (some ⟨p, 0, none⟩), .int .i64 k] w fun e w' => e = .returned (.int .i64 (fE n f k)) ∧ Al w' p B n (cF n f k) ∧ Mod (fun i => i = B) w w' := by
  rcases Classical.em (k < 0 ∨ (n : Int) ≤ k) with hk | hk
  · rw [fE, cF, if_pos hk, if_pos hk]
    refine (Fire_kind p B n f k w h hn hk).mono ?_
    rintro e w' ⟨rfl, rfl⟩
    exact ⟨rfl, h, Mod.refl _ _⟩
  · rw [fE, cF, if_neg hk, if_neg hk]
    rcases Classical.em (f k = 0) with h0 | h0
    · rw [if_pos h0, upd_self h0]
      refine (Fire_not p B n f k w h hn hi hk h0).mono ?_
      rintro e w' ⟨rfl, rfl⟩
      exact ⟨rfl, h, Mod.refl _ _⟩
    · rw [if_neg h0]
      exact Fire_ok p B n f k w h hn hi hk h0
/-- A tick: what is left behind it, of all, and of those below j; who is due, of those below j. -/
def tF (f : Int → Int) : Int → Int := fun k => if f k = 0 then 0 else f k - 1
def tP (f : Int → Int) (j : Nat) : Int → Int := fun k => if 0 ≤ k ∧ k < j then tF f k else f k
def dl (f : Int → Int) (j : Nat) : List Int := ((List.range j).filter (fun i : Nat => decide (f (i : Int) = 1))).map (fun i : Nat => (i : Int))
theorem dl_len (f : Int → Int) (j : Nat) : (dl f j).length ≤ j := by
  have := List.length_filter_le (fun i : Nat => decide (f (i : Int) = 1)) (List.range j)
  simpa [dl] using this
theorem dl_due {f : Int → Int} {j : Nat} (h : f j = 1) : dl f (j + 1) = dl f j ++ [(j : Int)] := by
  simp [dl, List.range_succ, List.filter_append, h]
theorem dl_not {f : Int → Int} {j : Nat} (h : ¬ f j = 1) : dl f (j + 1) = dl f j := by
  simp [dl, List.range_succ, List.filter_append, h]
theorem tP_zero (f : Int → Int) : tP f 0 = f := by
  funext k
  unfold tP
  rw [if_neg (by omega)]
theorem tP_at (f : Int → Int) (j : Nat) : tP f j j = f j := by
  unfold tP
  rw [if_neg (by omega)]
theorem tP_none {f : Int → Int} {j : Nat} (h : f j = 0) : tP f (j + 1) = tP f j := by
  funext k
  unfold tP tF
  by_cases e : k = j
  · subst e
    rw [if_pos (by omega), if_pos h, if_neg (by omega), h]
  · by_cases e2 : 0 ≤ k ∧ k < j
    · rw [if_pos e2, if_pos (show 0 ≤ k ∧ k < ((j + 1 : Nat) : Int) by omega)]
    · rw [if_neg e2, if_neg (show ¬ (0 ≤ k ∧ k < ((j + 1 : Nat) : Int)) by omega)]
theorem tP_upd {f : Int → Int} {j : Nat} (h : ¬ f j = 0) : upd (tP f j) j (f j - 1) = tP f (j + 1) := by
  funext k
  unfold upd tP tF
  by_cases e : k = j
  · subst e
    rw [if_pos rfl, if_pos (by omega), if_neg h]
  · rw [if_neg e]
    by_cases e2 : 0 ≤ k ∧ k < j
    · rw [if_pos e2, if_pos (show 0 ≤ k ∧ k < ((j + 1 : Nat) : Int) by omega)]
    · rw [if_neg e2, if_neg (show ¬ (0 ≤ k ∧ k < ((j + 1 : Nat) : Int)) by omega)]
theorem tP_all {f : Int → Int} {n : Nat} (h : Ok n f) : tP f n = tF f := by
  funext k
  unfold tP
  split
  · rfl
  · rename_i e
    have : f k = 0 := by
      rcases Classical.em (f k = 0) with h0 | h0
      · exact h0
      · exact absurd (h.out k h0) e
    simp [tF, this]
/-- mapUpdate at the operation, out of what its run leaves. -/
theorem wpList_mapUpdate_run {P : Program} (w : World) {ops : Array Oper} {rest : List Oper} {o : Oper} {a : Act} {Q : Exit → Act → World → Prop} (hg : o.guard = none) (m x v : Operand) (t : TypeId) (hop : o.op = Op.mapUpdate t m x v)
    (mv key val : Value) (hm : a.eval m = mv) (hx : a.eval x = key) (hv : a.eval v = val) {R : World → Prop} (hd : ∃ w', (Instr.mapUpdate t mv key val).run P w = .ok () w' ∧ R w')
    (hK : ∀ w', R w' → wpList P ops Q rest (a.put o.dst undef) w') : wpList P ops Q (o :: rest) a w := by
  refine wpList_plain hg fun K' hK' => ?_
  obtain ⟨w', hrun, r⟩ := hd
  unfold Oper.wp
  simp [execOp, hop, hm, hx, hv, hrun, Result.andThen]
  exact hK' _ _ (hK w' r)
set_option maxRecDepth 100000 in
set_option maxHeartbeats 1000000 in
theorem Tick_any (p B n : Nat) (f : Int → Int) (w : World) (h : Al w p B n f) (ok : Ok n f) : Calls Try.prog 17 #[.pointer (some ⟨p, 0, none⟩)] w fun e w' => ∃ v, e = .returned (.tuple #[v, .int .i64 0]) ∧ Own w' v (dl f n) ∧ Al w' p B n (tF f) ∧ Mod (fun i => i = B) w w' ∧ New w v := by
  obtain ⟨i0, hi, hz0, hz1, hz2⟩ := info_parts info3
  have hN := isNone_any p B n f w h ok.one
  have c0 := h.c0
  have hne := h.ne
  have hpl := h.lt
  have hn16 : (n : Int) ≤ 16 := by have := ok.num; omega
  have HL : Hid (Al w p B n f) := h
  have HO : Hid (Ok n f) := ok
  have hB := h.map.lt
  clear h ok
  go_enter Try.func17, Try.ntmps17
  go_wp2_with (go_at_call 25; refine hN.mono ?_; rintro e w' ⟨rfl, rfl⟩)
  go_loopw [4, 12] (fun s i wr => ∃ k : Nat, i = .int .i64 k ∧ k ≤ n ∧ Hid (Own wr s (dl f k)) ∧ Hid (Al wr p B n (tP f k)) ∧ Hid (Mod (fun i => i = B) w' wr) ∧ Hid (New w' s)) (fun _ i _ => n - (intOf i).toNat)
  case atStart => exact ⟨0, rfl, by omega, by show Own _ _ _; exact Own.nil _, by show Al _ _ _ _ _; rw [tP_zero]; exact HL.out, Mod.refl _ _, by intro g hg; simp [Value.ownBlock] at hg⟩
  case round =>
    obtain ⟨k, rfl, hk, hown, hal, hmod, hnew⟩ := hrel
    clear hN c0 HL
    by_cases hlt : k < n
    · have hkn : (k : Int) < (n : Int) := by omega
      have c1 := hal.out.c1
      have hi64 : I64 (k : Int) := by unfold I64; omega
      have hl := hal.out.map.look hi64
      rw [tP_at] at hl
      have hr := HO.out.rng k
      by_cases h0 : f k = 0
      · have e1 : Hid (dl f (k + 1) = dl f k) := dl_not (by omega)
        have e2 : Hid (tP f (k + 1) = tP f k) := tP_none h0
        rw [h0] at hl
        clear h0 hr hi64
        go_wp2
        go_roundw
        case rel => exact ⟨k + 1, by go_num, by omega, by show Own _ _ _; rw [e1.out]; exact hown, by show Al _ _ _ _ _; rw [e2.out]; exact hal, hmod, hnew⟩
        case measure => simp [intOf]; omega
      · by_cases h1 : f k = 1
        · have e1 : Hid (dl f (k + 1) = dl f k ++ [(k : Int)]) := dl_due h1
          have e2 : Hid (upd (tP f k) k 0 = tP f (k + 1)) := by have := tP_upd h0; rw [h1] at this; exact this
          have hll : Hid ((dl f k).length ≤ 16) := by have := dl_len f k; show _ ≤ _; omega
          have hd : ∀ ty, ∃ w', (Builtin.delete_ #[48, 3] ty #[.map (some B), .int .i64 k]).run Try.prog wr = .ok (.tuple #[]) w' ∧ Al w' p B n (tP f (k + 1)) ∧ Mod (fun i => i = B) wr w' := fun ty => by
            obtain ⟨w2, hrun, hp, ht⟩ := hal.out.map.drop hi64 ty
            rw [e2.out] at hp
            exact ⟨w2, hrun, hal.out.turned ht hp, (Mod.refl (fun i => i = B) _).turned ht (.inl rfl)⟩
          rw [h1] at hl
          have hnb : Hid (∀ g, u4.ownBlock = some g → ¬ g = B) := fun g hg e => by have := hnew.out g hg; omega
          clear h0 h1 hr hi64 e2
          generalize dl f k = l1 at hown hll e1
          go_wp2_with (first | (at_delete; refine wpList_delete_run _ rfl _ _ 48 3 rfl _ _ rfl rfl (hd _) ?_; rintro w2 ⟨hA, hm⟩) | (at_builtin; refine wpList_append_lies _ rfl _ _ 36 rfl 0 3 i0 (.int .i64 0) 1 8 Try.underlying36 hi hz0 hz1 hz2 rfl (by decide) u4 l1.length (U l1) rfl ((hown.out.mod hm hnb.out).alloc _) ⟨w2.heap.size, 0, none⟩ 1 1 [.int .i64 (k : Int)] rfl rfl (app1 _ _ _) (U_one [(k : Int)]) (by omega) (by have := hll.out; simp only [maxLen]; omega) (by have := hll.out; omega) (Nat.zero_le _) (w2.heap.size + 1) (by simp) ?_; intro g cap1 w3 hown1 hgrow hg hlt))
          have hm2 : Mod (fun i => i = B) w' w2 := hmod.out.trans hm (fun _ _ h => h) (fun _ _ h => h)
          have R := Own.one hm2 hnew.out hown1 hgrow hg
          have hm3 : Mod (fun i => i ≠ p ∧ i ≠ B) w2 w3 := ((Mod.refl _ _).alloc _).grown hgrow (fun q hq hlt => by have := hnew.out q hq; constructor <;> omega)
          go_roundw
          case rel => exact ⟨k + 1, by go_num, by omega, by show Own _ _ _; rw [e1.out]; exact R.1, hA.mod hm3 (by simp) (by simp), R.2.1, R.2.2⟩
          case measure => simp [intOf]; omega
        · have e1 : Hid (dl f (k + 1) = dl f k) := dl_not h1
          have e2 : Hid (upd (tP f k) k (f k - 1) = tP f (k + 1)) := tP_upd h0
          have hst : ∃ w', (Instr.mapUpdate 48 (.map (some B)) (.int .i64 k) (.int .i64 (f k - 1))).run Try.prog wr = .ok () w' ∧ Al w' p B n (tP f (k + 1)) ∧ Mod (fun i => i = B) wr w' := by
            obtain ⟨w2, hrun, hp, ht⟩ := hal.out.map.store hlt (by have := HO.out.num; omega) (t := f k - 1) (by unfold I64; omega)
            rw [e2.out] at hp
            exact ⟨w2, hrun, hal.out.turned ht hp, (Mod.refl (fun i => i = B) _).turned ht (.inl rfl)⟩
          obtain ⟨w2, hst, hA, hm⟩ := hst
          have hnb : Hid (∀ g, u4.ownBlock = some g → ¬ g = B) := fun g hg e => by have := hnew.out g hg; omega
          clear hi64 e2
          have z0 : (f k == 0) = false := by simpa using h0
          have z1 : (f k == 1) = false := by simpa using h1
          generalize hy : f k = y at *
          clear hy
          go_wp2
          have hm2 : Mod (fun i => i = B) w' w2 := hmod.out.trans hm (fun _ _ h => h) (fun _ _ h => h)
          go_roundw
          case rel => exact ⟨k + 1, by go_num, by omega, by show Own _ _ _; rw [e1.out]; exact hown.out.mod hm hnb.out, hA, hm2, hnew⟩
          case measure => simp [intOf]; omega
    · obtain rfl : k = n := by omega
      have e := tP_all HO.out
      have hA : Al wr p B k (tF f) := by rw [← e]; exact hal.out
      clear hal e
      go_wp2
      go_ret2
      exact ⟨_, rfl, hown.out, hA, hmod.out, hnew.out⟩
end Go.Proofs.Ytkbncndinfimnaa
