/- Contracts of the calls of windows that are none. No conditions. -/
import Derived.Test.YtejlcoakencdiaaYh
namespace Go.Proofs.Ytejlcoakencdiaa
open Go.RowKit Go.Maps
/-- A window that is none, whatever is laid behind it. -/
def Nw (w : World) (q : Option Addr) : Prop := ∀ W, Mod (fun _ => False) w W → Calls Try.prog 31 #[.pointer q] W fun e w' => e = .returned (.bool true) ∧ w' = W
theorem Nw.nil (w : World) : Nw w none := fun W _ => isNone_nil W
theorem Nw.zero {w : World} {p : Nat} {xs : Array Value} (h : Bk w p 62 xs) (h0 : xs[0]? = some (.map none)) : Nw w (some ⟨p, 0, none⟩) := fun _ hm => isNone_zero ((h.mod hm (fun h => h)).cellv (j := 0) h0)
theorem Nw.keep {w w' : World} {q : Option Addr} (h : Nw w q) (hm : Mod (fun _ => False) w w') : Nw w' q := fun W hW => h W (hm.and hW)
set_option maxRecDepth 100000 in
theorem Put_none {w : World} {q : Option Addr} (h : Nw w q) (d : Dt) (ao : Option Addr) (cap : Nat) : Calls Try.prog 12 #[.pointer q, dv d (.slice ao d.m.body.length cap)] w fun e w' => e = .returned (.tuple #[.bool false, .int .i64 1]) ∧ Mod (fun _ => False) w w' := by
  have hA := (Mod.refl (fun _ => False) w).alloc (.cells #[.int .i64 d.q, .int .i64 d.r, .int .i64 d.n, .int .i64 d.s, .int .i64 d.t, .int .i64 d.m.kind, .int .i64 d.m.origin, .int .i64 d.m.life, .int .i64 d.m.id, .int .i64 d.m.part, .int .i64 d.m.parts, .int .i64 d.m.groups, .bool d.m.safe, .int .i64 d.m.st, .int .i64 d.m.rs, .int .i64 d.m.rr, .int .i64 d.m.sq, .slice ao d.m.body.length cap] 35)
  have HN := h _ hA
  have HA : Hid (Mod _ _ _) := hA
  clear hA h
  unfold dv
  go_enter Try.func12, Try.ntmps12
  go_wp2_with (go_at_call 31; refine HN.mono ?_; rintro e w' ⟨rfl, rfl⟩)
  go_ret2
  exact ⟨rfl, HA.out⟩
set_option maxRecDepth 100000 in
theorem Get_none {w : World} {q : Option Addr} (h : Nw w q) (k : Int) : Calls Try.prog 15 #[.pointer q, .int .i64 k] w fun e w' => e = .returned (.tuple #[dv d0 (.slice none 0 0), .bool false]) ∧ Mod (fun _ => False) w w' := by
  have hA := (Mod.refl (fun _ => False) w).alloc (.cells #[.int .i64 0, .int .i64 0, .int .i64 0, .int .i64 0, .int .i64 0, .int .i64 0, .int .i64 0, .int .i64 0, .int .i64 0, .int .i64 0, .int .i64 0, .int .i64 0, .bool false, .int .i64 0, .int .i64 0, .int .i64 0, .int .i64 0, .slice none 0 0] 35)
  have HN := h _ hA
  have hZ : Hid (Bk _ _ _ _) := Bk.new w #[.int .i64 0, .int .i64 0, .int .i64 0, .int .i64 0, .int .i64 0, .int .i64 0, .int .i64 0, .int .i64 0, .int .i64 0, .int .i64 0, .int .i64 0, .int .i64 0, .bool false, .int .i64 0, .int .i64 0, .int .i64 0, .int .i64 0, .slice none 0 0] 35
  have HA : Hid (Mod _ _ _) := hA
  clear hA h
  go_enter Try.func15, Try.ntmps15
  go_wp2_with (first | (go_at_call 31; refine HN.mono ?_; rintro e w' ⟨rfl, rfl⟩) | (refine wpList_store_row info18 rfl rfl _ _ rfl w.heap.size #[.int .i64 0, .int .i64 0, .int .i64 0, .int .i64 0, .int .i64 0, .int .i64 0, .int .i64 0, .int .i64 0, .int .i64 0, .int .i64 0, .int .i64 0, .int .i64 0, .bool false, .int .i64 0, .int .i64 0, .int .i64 0, .int .i64 0, .slice none 0 0] rfl rfl hZ.out rfl rfl rfl ?_; intro wF hBF hMF))
  exact bodyPost_ret (resT2 info18 Try.underlying35 rfl rfl rfl rfl hBF rfl) rfl ⟨rfl, HA.out.trans hMF (V := fun _ => False) (fun _ _ h => h) (fun i hi h => by omega)⟩
theorem See_none {w : World} {q : Option Addr} (h : Nw w q) (k : Int) : Calls Try.prog 9 #[.pointer q, .int .i64 k] w fun e w' => e = .returned (.int .i64 1) ∧ w' = w := by
  have HN := h w (Mod.refl _ w)
  clear h
  go_enter Try.func9, Try.ntmps9
  go_wp2_with (go_at_call 31; refine HN.mono ?_; rintro e w' ⟨rfl, rfl⟩)
  go_ret
  exact ⟨rfl, rfl⟩
theorem Aru_none {w : World} {q : Option Addr} (h : Nw w q) : Calls Try.prog 18 #[.pointer q] w fun e w' => e = .returned (.int .i64 0) ∧ w' = w := by
  have HN := h w (Mod.refl _ w)
  clear h
  go_enter Try.func18, Try.ntmps18
  go_wp2_with (go_at_call 31; refine HN.mono ?_; rintro e w' ⟨rfl, rfl⟩)
  go_ret
  exact ⟨rfl, rfl⟩
theorem High_none {w : World} {q : Option Addr} (h : Nw w q) : Calls Try.prog 20 #[.pointer q] w fun e w' => e = .returned (.int .i64 0) ∧ w' = w := by
  have HN := h w (Mod.refl _ w)
  clear h
  go_enter Try.func20, Try.ntmps20
  go_wp2_with (go_at_call 31; refine HN.mono ?_; rintro e w' ⟨rfl, rfl⟩)
  go_ret
  exact ⟨rfl, rfl⟩
theorem Above_none {w : World} {q : Option Addr} (h : Nw w q) (k : Int) : Calls Try.prog 17 #[.pointer q, .int .i64 k] w fun e w' => e = .returned (.slice none 0 0) ∧ w' = w := by
  have HN := h w (Mod.refl _ w)
  clear h
  go_enter Try.func17, Try.ntmps17
  go_wp2_with (go_at_call 31; refine HN.mono ?_; rintro e w' ⟨rfl, rfl⟩)
  go_ret
  exact ⟨rfl, rfl⟩
set_option maxRecDepth 100000 in
theorem Gaps_none {w : World} {q : Option Addr} (h : Nw w q) (m : Int) : Calls Try.prog 23 #[.pointer q, .int .i64 m] w fun e w' => e = .returned (.slice none 0 0) ∧ w' = w := by
  have HA := Aru_none h
  have HH := High_none h
  clear h
  go_enter Try.func23, Try.ntmps23
  go_wp2_with (go_at_call 18; refine HA.mono ?_; rintro e w' ⟨rfl, rfl⟩)
  go_loopw [5, 6] (fun v s wr => v = .slice none 0 0 ∧ s = .int .i64 1 ∧ wr = w') (fun _ _ _ => 0)
  case atStart => exact ⟨rfl, rfl, rfl⟩
  case round =>
    obtain ⟨rfl, rfl, rfl⟩ := hrel
    go_wp2_with (go_at_call 20; refine HH.mono ?_; rintro e w2 ⟨rfl, rfl⟩)
    go_ret
    exact ⟨rfl, rfl⟩
end Go.Proofs.Ytejlcoakencdiaa
