/- Contracts of package piece's small functions: labelOf, isText, New, isNone, Waiting, of all messages and of joiners that New made; of none. Conditions: sizes that a slice of bytes has. -/
import Derived.Test.YtifogbhlphofjaaXa
import Derived.Deep.RegionHeld3
import Derived.Deep.RegionLaw
import Derived.Deep.QuietTactic
namespace Go.Proofs.Ytifogbhlphofjaa
open Go.RowKit Go.Maps
/-- A struct as a result through a cell. -/
theorem resT {t t' : TypeId} {n : Nat} {d : TypeDesc} (hi : (Try.prog.info? t).map (·.size) = some n) (hu : Try.prog.underlying t = some d) (hd : d.isRow = true) {fn : Func} {pp : Tmp} (h : fn.results = #[.cell pp t]) {tmps : Array Value} {w : World} {b : Nat} {xs : Array Value} (hp : tmps.getD pp undef = .pointer (some ⟨b, 0, none⟩)) (hb : Bk w b t' xs) (hs : xs.size = n) :
    (results fn tmps).run Try.prog w = .ok (.agg xs) w := by
  rw [results_cell1 h, hp]
  have hl := run_loadVar_mid (P := Try.prog) w b 0 t xs.toList _ hb.row hu hd (by rw [hi]; simp [hs])
  simp only [asAddr, Sem.run_pure, Result.andThen]
  rw [hl]
theorem Bk.drew {w : World} {b : Nat} {t : TypeId} {xs : Array Value} (h : Bk w b t xs) : Bk w.drew b t xs := ⟨h.at'⟩
theorem Bk.new2 (w : World) (o : Obj) (xs : Array Value) (t : TypeId) : Bk ((w.alloc o).alloc (.cells xs t)) (w.heap.size + 1) t xs := by
  have := Bk.new (w.alloc o) xs t
  rwa [show (w.alloc o).heap.size = w.heap.size + 1 by simp] at this
theorem infoLb : (Try.prog.info? 80).map (·.size) = some 4 := by kernel_rfl
theorem infoPi : (Try.prog.info? 82).map (·.size) = some 6 := by kernel_rfl
theorem infoMs : (Try.prog.info? 28).map (·.size) = some 13 := by kernel_rfl
/-- A message as a value. -/
def ms (m : Ms) (v : Value) : Value := .agg #[.int .i64 m.kind, .int .i64 m.origin, .int .i64 m.life, .int .i64 m.id, .int .i64 m.part, .int .i64 m.parts, .int .i64 m.groups, .bool m.safe, .int .i64 m.st, .int .i64 m.rs, .int .i64 m.rr, .int .i64 m.sq, v]
set_option maxRecDepth 100000 in
theorem labelOf_any (k o lf i p ps g : Int) (s : Bool) (st rs rr sq : Int) (v : Value) (w : World) :
    Calls Try.prog 41 #[.agg #[.int .i64 k, .int .i64 o, .int .i64 lf, .int .i64 i, .int .i64 p, .int .i64 ps, .int .i64 g, .bool s, .int .i64 st, .int .i64 rs, .int .i64 rr, .int .i64 sq, v]] w fun e w' => e = .returned (.agg #[.int .i64 i, .int .i64 ps, .int .i64 g, .bool s]) ∧ Mod (fun _ => False) w w' := by
  go_enter Try.func41, Try.ntmps41
  go_wp2
  exact bodyPost_ret (resT infoLb Try.underlying80 rfl rfl rfl (Bk.new2 w _ _ _) rfl) rfl ⟨rfl, ((Mod.refl _ w).alloc _).alloc _⟩
set_option maxRecDepth 100000 in
theorem isText_any (k o lf i p ps g : Int) (s : Bool) (st rs rr sq : Int) (ao : Option Addr) (cap : Nat) (l : List Int) (w : World) (hs : Sl w (.slice ao l.length cap) l) :
    Calls Try.prog 31 #[.agg #[.int .i64 k, .int .i64 o, .int .i64 lf, .int .i64 i, .int .i64 p, .int .i64 ps, .int .i64 g, .bool s, .int .i64 st, .int .i64 rs, .int .i64 rr, .int .i64 sq, .slice ao l.length cap]] w fun e w' => e = .returned (.bool (k == 1 && chk ⟨k, o, lf, i, p, ps, g, s, st, rs, rr, sq, l⟩ == 0)) ∧ Mod (fun _ => False) w w' := by
  have hA := (Mod.refl (fun _ => False) w).alloc (.cells #[.int .i64 k, .int .i64 o, .int .i64 lf, .int .i64 i, .int .i64 p, .int .i64 ps, .int .i64 g, .bool s, .int .i64 st, .int .i64 rs, .int .i64 rr, .int .i64 sq, .slice ao l.length cap] 28)
  have HC := Check_any k o lf i p ps g s st rs rr sq ao cap l _ (hs.mod hA (fun _ _ h => h))
  generalize chk ⟨k, o, lf, i, p, ps, g, s, st, rs, rr, sq, l⟩ = E at HC ⊢
  rcases Classical.em (k = 1) with hk | hk
  · have e1 : (k == 1) = true := by simp [hk]
    rw [e1]
    have HK : Hid (k = 1) := hk
    clear hk
    go_enter Try.func31, Try.ntmps31
    go_wp2_with (go_at_call 40; refine HC.mono ?_; rintro e w1 ⟨rfl, hm1⟩)
    go_ret
    exact ⟨by simp, hA.trans hm1 (fun _ _ h => h) (fun _ _ h => h)⟩
  · have e1 : (k == 1) = false := by simp [hk]
    rw [e1]
    clear hk
    go_enter Try.func31, Try.ntmps31
    go_wp2
    go_ret
    exact ⟨rfl, hA⟩
/-- A joiner at block p, in the blocks X, with what is under way, of N senders. -/
structure Jn (w : World) (p : Nat) (X : Nat → Prop) (J : Sd → Option Pile) (N : Nat) : Prop where
  ex : ∃ (B : Nat) (V : Sd → Value), Bk w p 62 #[.map (some B)] ∧ X p ∧ X B ∧ Mx w B J V N ∧
    (∀ k z, J k = some z → Own w (V k) z.l ∧ (∀ b, (V k).ownBlock = some b → X b) ∧ (∀ c ∈ z.l, 0 ≤ c ∧ c ≤ 255)) ∧
    (∀ k j z z', J k = some z → J j = some z' → k ≠ j → ∀ b, (V k).ownBlock = some b → (V j).ownBlock ≠ some b)
  lt : ∀ b, X b → b < w.heap.size
theorem Jn.mod {S X : Nat → Prop} {w w' : World} {p : Nat} {J : Sd → Option Pile} {N : Nat} (h : Jn w p X J N) (hm : Mod S w w') (hX : ∀ b, X b → ¬ S b) : Jn w' p X J N := by
  obtain ⟨⟨B, V, h1, h2, h3, h4, h5, h6⟩, h7⟩ := h
  refine ⟨⟨B, V, h1.mod hm (hX _ h2), h2, h3, h4.mod hm (hX _ h3), fun k z hz => ?_, h6⟩, fun b hb => Nat.lt_of_lt_of_le (h7 b hb) hm.size⟩
  obtain ⟨a1, a2, a3⟩ := h5 k z hz
  exact ⟨a1.mod hm (fun g hg => hX _ (a2 g hg)), a2, a3⟩
/-- Blocks that were there, or are new. -/
def Gone (w : World) (X X' : Nat → Prop) : Prop := ∀ b, X' b → X b ∨ w.heap.size ≤ b
theorem Gone.refl (w : World) (X : Nat → Prop) : Gone w X X := fun _ h => .inl h
theorem Gone.trans {w w1 : World} {X Y Z : Nat → Prop} (h : Gone w X Y) (k : Gone w1 Y Z) (hs : w.heap.size ≤ w1.heap.size) : Gone w X Z := fun b hb => by
  rcases k b hb with h1 | h1
  · exact h b h1
  · exact .inr (by omega)
theorem pNew_any (w : World) : Calls Try.prog 16 #[] w fun e w' => ∃ p X, e = .returned (.pointer (some ⟨p, 0, none⟩)) ∧ Jn w' p X (fun _ => none) 0 ∧ Mod (fun _ => False) w w' ∧ (∀ b, X b → w.heap.size ≤ b) := by
  have hmm := @run_makeMap Try.prog
  go_enter Try.func16, Try.ntmps16
  go_wp2
  go_ret
  refine ⟨_, fun b => b = w.heap.size ∨ b = w.heap.size + 1, rfl, ⟨⟨w.heap.size, fun _ => .slice none 0 0, Bk.new2 w _ _ _, .inr (by simp), .inl rfl, (Mx.new w).mod ((Mod.refl (fun _ => False) _).alloc _) (fun h => h), by simp, by simp⟩, ?_⟩, ((Mod.refl _ w).alloc _).alloc _, ?_⟩
  · intro b hb
    simp
    omega
  · intro b hb
    omega
theorem eqMap1 (B : Nat) (w : World) : (binOp .eql 60 (.map (some B)) (.map none)).run Try.prog w = .ok (.bool false) w := by kernel_rfl
theorem eqMap0 (w : World) : (binOp .eql 60 (.map none) (.map none)).run Try.prog w = .ok (.bool true) w := by kernel_rfl
set_option maxRecDepth 100000 in
theorem jNone_any {w : World} {p : Nat} {X : Nat → Prop} {J : Sd → Option Pile} {N : Nat} (h : Jn w p X J N) : Calls Try.prog 30 #[.pointer (some ⟨p, 0, none⟩)] w fun e w' => e = .returned (.bool false) ∧ w' = w := by
  obtain ⟨⟨B, V, h1, _⟩, _⟩ := h
  have c0 : w.cell? ⟨p, 0, none⟩ = some (.map (some B)) := h1.cellv (j := 0) rfl
  have hq := eqMap1 B
  clear h1
  go_enter Try.func30, Try.ntmps30
  go_wp2
  go_ret
  exact ⟨rfl, rfl⟩
set_option maxRecDepth 100000 in
theorem jNone_nil (w : World) : Calls Try.prog 30 #[.pointer none] w fun e w' => e = .returned (.bool true) ∧ w' = w := by
  go_enter Try.func30, Try.ntmps30
  go_wp2
  go_ret
  exact ⟨rfl, rfl⟩
set_option maxRecDepth 100000 in
theorem jNone_zero {w : World} {p : Nat} (c0 : w.cell? ⟨p, 0, none⟩ = some (.map none)) : Calls Try.prog 30 #[.pointer (some ⟨p, 0, none⟩)] w fun e w' => e = .returned (.bool true) ∧ w' = w := by
  have hq := eqMap0
  go_enter Try.func30, Try.ntmps30
  go_wp2
  go_ret
  exact ⟨rfl, rfl⟩
set_option maxRecDepth 100000 in
theorem Wait_any {w : World} {p : Nat} {X : Nat → Prop} {J : Sd → Option Pile} {N : Nat} (h : Jn w p X J N) : Calls Try.prog 20 #[.pointer (some ⟨p, 0, none⟩)] w fun e w' => e = .returned (.int .i64 N) ∧ w' = w := by
  have HN := jNone_any h
  obtain ⟨⟨B, V, h1, _, _, h4, _⟩, _⟩ := h
  have c0 : w.cell? ⟨p, 0, none⟩ = some (.map (some B)) := h1.cellv (j := 0) rfl
  have hl := h4.len
  clear h1 h4
  go_enter Try.func20, Try.ntmps20
  go_wp2_with (go_at_call 30; refine HN.mono ?_; rintro e w' ⟨rfl, rfl⟩)
  go_ret
  exact ⟨rfl, rfl⟩
end Go.Proofs.Ytifogbhlphofjaa
