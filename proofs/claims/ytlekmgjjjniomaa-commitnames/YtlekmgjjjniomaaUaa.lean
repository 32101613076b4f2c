/- A commit in memory of its own: copied. Conditions: sizes that a slice has. -/
import Derived.Test.YtlekmgjjjniomaaUz
namespace Go.Proofs.Ytlekmgjjjniomaa
open Go.RowKit
set_option maxRecDepth 100000 in
set_option maxHeartbeats 4000000 in
theorem dCopied (rs rr mm hp : Int) (cao : Option Addr) (ccap : Nat) (ce : List Ey) (w : World) (hs : SlE w (.slice cao ce.length ccap) ce) (hb : ce.length * 48 ≤ 140737488355328) : Calls Try.prog 33 #[.agg #[.int .i64 rs, .int .i64 rr, .int .i64 mm, .int .i64 hp, .slice cao ce.length ccap]] w fun e w' => ∃ ao cap, e = .returned (.agg #[.int .i64 rs, .int .i64 rr, .int .i64 mm, .int .i64 hp, .slice ao ce.length cap]) ∧ RE w' (.slice ao ce.length cap) ce ∧ Mod (fun _ => False) w w' ∧ Nw w (.slice ao ce.length cap) := by
  obtain ⟨W1, hW⟩ : ∃ W1, W1 = ((w.alloc (.cells #[.int .i64 rs, .int .i64 rr, .int .i64 mm, .int .i64 hp, .slice cao ce.length ccap] 26)).alloc (.cells #[.int .i64 0, .int .i64 0, .int .i64 0, .int .i64 0, .slice none 0 0] 26)).alloc (.cells #[.int .i64 rs, .int .i64 rr, .int .i64 mm, .int .i64 hp, .slice none 0 0] 26) := ⟨_, rfl⟩
  have hM : Mod (fun _ => False) w W1 := by rw [hW]; exact (((Mod.refl (fun _ => False) w).alloc _).alloc _).alloc _
  have h0 : Bk W1 w.heap.size 26 #[.int .i64 rs, .int .i64 rr, .int .i64 mm, .int .i64 hp, .slice cao ce.length ccap] := by rw [hW]; exact ((Bk.new w _ _).mod ((Mod.refl (fun _ => False) _).alloc _) (fun h => h)).mod ((Mod.refl (fun _ => False) _).alloc _) (fun h => h)
  have h1 : Bk W1 (w.heap.size + 1) 26 #[.int .i64 0, .int .i64 0, .int .i64 0, .int .i64 0, .slice none 0 0] := by
    rw [hW]
    have := (Bk.new (w.alloc (.cells #[.int .i64 rs, .int .i64 rr, .int .i64 mm, .int .i64 hp, .slice cao ce.length ccap] 26)) #[.int .i64 0, .int .i64 0, .int .i64 0, .int .i64 0, .slice none 0 0] 26).mod ((Mod.refl (fun _ => False) _).alloc (.cells #[.int .i64 rs, .int .i64 rr, .int .i64 mm, .int .i64 hp, .slice none 0 0] 26)) (fun h => h)
    simpa using this
  have h2 : Bk W1 (w.heap.size + 2) 26 #[.int .i64 rs, .int .i64 rr, .int .i64 mm, .int .i64 hp, .slice none 0 0] := by
    rw [hW]
    have := Bk.new ((w.alloc (.cells #[.int .i64 rs, .int .i64 rr, .int .i64 mm, .int .i64 hp, .slice cao ce.length ccap] 26)).alloc (.cells #[.int .i64 0, .int .i64 0, .int .i64 0, .int .i64 0, .slice none 0 0] 26)) #[.int .i64 rs, .int .i64 rr, .int .i64 mm, .int .i64 hp, .slice none 0 0] 26
    simpa using this
  have hsz : W1.heap.size = w.heap.size + 3 := by rw [hW]; simp
  have hs1 := hs.keep hM
  have hnb : ([] : List Ey).length + ce.length = ce.length := by simp
  have hbb : (([] : List Ey).length + ce.length) * 48 ≤ 140737488355328 := by rw [hnb]; exact hb
  have HB : Hid ((([] : List Ey).length + ce.length) * 48 ≤ 140737488355328) := hbb
  clear hbb hb
  go_enter Try.func33, Try.ntmps33
  go_upto_region 3 with fail
  rw [← hW]
  clear hW
  have a4 := h0.cellv (j := 4) (v := .slice cao ce.length ccap) rfl
  have b4 := h2.cellv (j := 4) (v := .slice none 0 0) rfl
  have f4 := h2.frz 4
  go_upto_region 4 with (at_builtin; refine wpList_appE rfl _ _ rfl (.slice none 0 0) (.slice cao ce.length ccap) [] ce rfl rfl (RE.nil _) hs1 HB.out ce.length hnb.symm ?_; intro ax cx w2 hr hm hfr; have hmq : Mod (fun _ => False) W1 w2 := (Mod.refl (fun _ => False) W1).trans hm (V := fun _ => False) (fun _ _ h => h) (fun i hi h => by cases h); have g4 := (h2.mod hmq (fun h => h)).cellv (j := 4) (v := .slice none 0 0) rfl; have fg4 := (h2.mod hmq (fun h => h)).frz 4)
  have hmA : Mod (fun k => k = w.heap.size + 2) w2 (w2.setCell ⟨w.heap.size + 2, 4, none⟩ (.slice ax ce.length cx)) := (Mod.refl _ w2).setCell _ _ (.inl rfl)
  have hbA := (h2.mod hmq (fun h => h)).set 4 (.slice ax ce.length cx)
  have hbB := (h1.mod hmq (fun h => h)).mod hmA (by omega)
  simp only [List.setIfInBounds_toArray, List.set_cons_succ, List.set_cons_zero] at hbA
  have hnw : ∀ g, (Value.slice ax ce.length cx).ownBlock = some g → w.heap.size + 3 ≤ g := fun g hg => by
    rcases hfr g hg with h | h
    · cases h
    · omega
  rw [List.nil_append] at hr
  have HR : Hid (RE w2 (.slice ax ce.length cx) ce ∧ Mod (fun _ => False) w w2 ∧ ∀ g, (Value.slice ax ce.length cx).ownBlock = some g → w.heap.size + 3 ≤ g) := ⟨hr, hM.and hmq, hnw⟩
  clear hr hm hfr hM hmq hnw a4 b4 f4 g4 fg4 h0 h1 h2 hs hs1 HB hsz
  go_wp2_with (first | (refine wpList_load_row infoC Try.underlying26 rfl rfl _ rfl (w.heap.size + 2) rfl hbA rfl ?_) | (refine wpList_store_row infoC rfl rfl _ _ rfl (w.heap.size + 1) #[.int .i64 rs, .int .i64 rr, .int .i64 mm, .int .i64 hp, .slice ax ce.length cx] rfl rfl hbB rfl rfl rfl ?_; intro wF hBF hMF))
  refine bodyPost_ret (resT infoC Try.underlying26 rfl rfl rfl hBF rfl) rfl ⟨ax, cx, rfl, ?_, ?_, fun g hg => by have := HR.out.2.2 g hg; omega⟩
  · exact (HR.out.1.mod hmA fun g hg e => by have := HR.out.2.2 g hg; omega).mod hMF fun g hg e => by have := HR.out.2.2 g hg; omega
  · exact (HR.out.2.1.trans hmA (V := fun _ => False) (fun _ _ h => h) (fun i hi h => by omega)).trans hMF (V := fun _ => False) (fun _ _ h => h) (fun i hi h => by omega)
set_option maxRecDepth 100000 in
set_option maxHeartbeats 4000000 in
theorem lCopied (rs rr mm hp : Int) (cao : Option Addr) (ccap : Nat) (ce : List Ey) (w : World) (hs : SlE w (.slice cao ce.length ccap) ce) (hb : ce.length * 48 ≤ 140737488355328) : Calls Try.prog 8 #[.agg #[.int .i64 rs, .int .i64 rr, .int .i64 mm, .int .i64 hp, .slice cao ce.length ccap]] w fun e w' => ∃ ao cap, e = .returned (.agg #[.int .i64 rs, .int .i64 rr, .int .i64 mm, .int .i64 hp, .slice ao ce.length cap]) ∧ RE w' (.slice ao ce.length cap) ce ∧ Mod (fun _ => False) w w' ∧ Nw w (.slice ao ce.length cap) := by
  obtain ⟨W1, hW⟩ : ∃ W1, W1 = ((w.alloc (.cells #[.int .i64 rs, .int .i64 rr, .int .i64 mm, .int .i64 hp, .slice cao ce.length ccap] 26)).alloc (.cells #[.int .i64 0, .int .i64 0, .int .i64 0, .int .i64 0, .slice none 0 0] 26)).alloc (.cells #[.int .i64 rs, .int .i64 rr, .int .i64 mm, .int .i64 hp, .slice none 0 0] 26) := ⟨_, rfl⟩
  have hM : Mod (fun _ => False) w W1 := by rw [hW]; exact (((Mod.refl (fun _ => False) w).alloc _).alloc _).alloc _
  have h0 : Bk W1 w.heap.size 26 #[.int .i64 rs, .int .i64 rr, .int .i64 mm, .int .i64 hp, .slice cao ce.length ccap] := by rw [hW]; exact ((Bk.new w _ _).mod ((Mod.refl (fun _ => False) _).alloc _) (fun h => h)).mod ((Mod.refl (fun _ => False) _).alloc _) (fun h => h)
  have h1 : Bk W1 (w.heap.size + 1) 26 #[.int .i64 0, .int .i64 0, .int .i64 0, .int .i64 0, .slice none 0 0] := by
    rw [hW]
    have := (Bk.new (w.alloc (.cells #[.int .i64 rs, .int .i64 rr, .int .i64 mm, .int .i64 hp, .slice cao ce.length ccap] 26)) #[.int .i64 0, .int .i64 0, .int .i64 0, .int .i64 0, .slice none 0 0] 26).mod ((Mod.refl (fun _ => False) _).alloc (.cells #[.int .i64 rs, .int .i64 rr, .int .i64 mm, .int .i64 hp, .slice none 0 0] 26)) (fun h => h)
    simpa using this
  have h2 : Bk W1 (w.heap.size + 2) 26 #[.int .i64 rs, .int .i64 rr, .int .i64 mm, .int .i64 hp, .slice none 0 0] := by
    rw [hW]
    have := Bk.new ((w.alloc (.cells #[.int .i64 rs, .int .i64 rr, .int .i64 mm, .int .i64 hp, .slice cao ce.length ccap] 26)).alloc (.cells #[.int .i64 0, .int .i64 0, .int .i64 0, .int .i64 0, .slice none 0 0] 26)) #[.int .i64 rs, .int .i64 rr, .int .i64 mm, .int .i64 hp, .slice none 0 0] 26
    simpa using this
  have hsz : W1.heap.size = w.heap.size + 3 := by rw [hW]; simp
  have hs1 := hs.keep hM
  have hnb : ([] : List Ey).length + ce.length = ce.length := by simp
  have hbb : (([] : List Ey).length + ce.length) * 48 ≤ 140737488355328 := by rw [hnb]; exact hb
  have HB : Hid ((([] : List Ey).length + ce.length) * 48 ≤ 140737488355328) := hbb
  clear hbb hb
  go_enter Try.func8, Try.ntmps8
  go_upto_region 3 with fail
  rw [← hW]
  clear hW
  have a4 := h0.cellv (j := 4) (v := .slice cao ce.length ccap) rfl
  have b4 := h2.cellv (j := 4) (v := .slice none 0 0) rfl
  have f4 := h2.frz 4
  go_upto_region 4 with (at_builtin; refine wpList_appE rfl _ _ rfl (.slice none 0 0) (.slice cao ce.length ccap) [] ce rfl rfl (RE.nil _) hs1 HB.out ce.length hnb.symm ?_; intro ax cx w2 hr hm hfr; have hmq : Mod (fun _ => False) W1 w2 := (Mod.refl (fun _ => False) W1).trans hm (V := fun _ => False) (fun _ _ h => h) (fun i hi h => by cases h); have g4 := (h2.mod hmq (fun h => h)).cellv (j := 4) (v := .slice none 0 0) rfl; have fg4 := (h2.mod hmq (fun h => h)).frz 4)
  have hmA : Mod (fun k => k = w.heap.size + 2) w2 (w2.setCell ⟨w.heap.size + 2, 4, none⟩ (.slice ax ce.length cx)) := (Mod.refl _ w2).setCell _ _ (.inl rfl)
  have hbA := (h2.mod hmq (fun h => h)).set 4 (.slice ax ce.length cx)
  have hbB := (h1.mod hmq (fun h => h)).mod hmA (by omega)
  simp only [List.setIfInBounds_toArray, List.set_cons_succ, List.set_cons_zero] at hbA
  have hnw : ∀ g, (Value.slice ax ce.length cx).ownBlock = some g → w.heap.size + 3 ≤ g := fun g hg => by
    rcases hfr g hg with h | h
    · cases h
    · omega
  rw [List.nil_append] at hr
  have HR : Hid (RE w2 (.slice ax ce.length cx) ce ∧ Mod (fun _ => False) w w2 ∧ ∀ g, (Value.slice ax ce.length cx).ownBlock = some g → w.heap.size + 3 ≤ g) := ⟨hr, hM.and hmq, hnw⟩
  clear hr hm hfr hM hmq hnw a4 b4 f4 g4 fg4 h0 h1 h2 hs hs1 HB hsz
  go_wp2_with (first | (refine wpList_load_row infoC Try.underlying26 rfl rfl _ rfl (w.heap.size + 2) rfl hbA rfl ?_) | (refine wpList_store_row infoC rfl rfl _ _ rfl (w.heap.size + 1) #[.int .i64 rs, .int .i64 rr, .int .i64 mm, .int .i64 hp, .slice ax ce.length cx] rfl rfl hbB rfl rfl rfl ?_; intro wF hBF hMF))
  refine bodyPost_ret (resT infoC Try.underlying26 rfl rfl rfl hBF rfl) rfl ⟨ax, cx, rfl, ?_, ?_, fun g hg => by have := HR.out.2.2 g hg; omega⟩
  · exact (HR.out.1.mod hmA fun g hg e => by have := HR.out.2.2 g hg; omega).mod hMF fun g hg e => by have := HR.out.2.2 g hg; omega
  · exact (HR.out.2.1.trans hmA (V := fun _ => False) (fun _ _ h => h) (fun i hi h => by omega)).trans hMF (V := fun _ => False) (fun _ _ h => h) (fun i hi h => by omega)
end Go.Proofs.Ytlekmgjjjniomaa
