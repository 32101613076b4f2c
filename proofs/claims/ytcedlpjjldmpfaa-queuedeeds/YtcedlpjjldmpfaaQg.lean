/- Contracts of the law's text, texts and works. Conditions: small numbers. -/
import Derived.Test.YtcedlpjjldmpfaaQf
import Derived.Test.YtcedlpjjldmpfaaCx
import Derived.Test.YtcedlpjjldmpfaaRw
namespace Go.Proofs.Ytcedlpjjldmpfaa
open Go.RowKit
/-- The text that a number tells. -/
def tm (n : Nat) : Ms := ⟨1, 1 + ((n % 8 : Nat) : Int), 1, (n : Int), 0, 1, 1, false, 0, 0, 0, 0, [(n : Int)]⟩
theorem tm_all : ∀ n : Fin 256, chk (tm n.val) = 0 := by decide +kernel
theorem tm_chk (n : Nat) (h : n < 256) : chk (tm n) = 0 := tm_all ⟨n, h⟩
theorem and_all : ∀ n : Fin 256, bits BinOp.and IntKind.i64 (n.val : Int) 7 = ((n.val % 8 : Nat) : Int) ∧ bits BinOp.and IntKind.i64 (n.val : Int) 65535 = (n.val : Int) := by decide +kernel
set_option maxRecDepth 100000 in
theorem text_any (n : Nat) (w : World) (h : n < 256) : Calls Try.prog 22 #[.int .i64 (n : Int)] w fun e w' => ∃ b, e = .returned (.agg #[.int .i64 1, .int .i64 (1 + ((n % 8 : Nat) : Int)), .int .i64 1, .int .i64 (n : Int), .int .i64 0, .int .i64 1, .int .i64 1, .bool false, .int .i64 0, .int .i64 0, .int .i64 0, .int .i64 0, .slice (some ⟨b, 0, none⟩) 1 1]) ∧ Own w' (.slice (some ⟨b, 0, none⟩) 1 1) [(n : Int)] ∧ w.heap.size ≤ b ∧ Mod (fun _ => False) w w' := by
  obtain ⟨e1, e2⟩ := and_all ⟨n, h⟩
  simp only at e1 e2
  obtain ⟨r, er⟩ : ∃ r, r = ((n % 8 : Nat) : Int) := ⟨_, rfl⟩
  have hr1 : 0 ≤ r := by omega
  have hr2 : r < 8 := by omega
  have e3 : (n : Int) % 256 = (n : Int) := by omega
  rw [← er] at e1 ⊢
  clear er h
  go_enter Try.func22, Try.ntmps22
  go_wp2_with (fail)
  have hN := Bk.new w #[.int .i64 1, .int .i64 (1 + r), .int .i64 1, .int .i64 (n : Int), .int .i64 0, .int .i64 1, .int .i64 1, .bool false, .int .i64 0, .int .i64 0, .int .i64 0, .int .i64 0, .slice (some ⟨w.heap.size + 1, 0, none⟩) 1 1] 40
  have hA := (Mod.refl (fun _ => False) w).alloc (.cells #[.int .i64 1, .int .i64 (1 + r), .int .i64 1, .int .i64 (n : Int), .int .i64 0, .int .i64 1, .int .i64 1, .bool false, .int .i64 0, .int .i64 0, .int .i64 0, .int .i64 0, .slice (some ⟨w.heap.size + 1, 0, none⟩) 1 1] 40)
  have hO := Own.lit (w.alloc (.cells #[.int .i64 1, .int .i64 (1 + r), .int .i64 1, .int .i64 (n : Int), .int .i64 0, .int .i64 1, .int .i64 1, .bool false, .int .i64 0, .int .i64 0, .int .i64 0, .int .i64 0, .slice (some ⟨w.heap.size + 1, 0, none⟩) 1 1] 40)) [(n : Int)] (by simp [maxLen])
  have hz : (w.alloc (.cells #[.int .i64 1, .int .i64 (1 + r), .int .i64 1, .int .i64 (n : Int), .int .i64 0, .int .i64 1, .int .i64 1, .bool false, .int .i64 0, .int .i64 0, .int .i64 0, .int .i64 0, .slice (some ⟨w.heap.size + 1, 0, none⟩) 1 1] 40)).heap.size = w.heap.size + 1 := by simp
  rw [hz] at hO
  exact bodyPost_ret (res1 rfl rfl (hN.mod ((Mod.refl (fun _ => False) _).alloc (.cells #[.int .u8 (n : Int)] 5)) (fun h => h)) rfl) rfl ⟨w.heap.size + 1, rfl, hO, by omega, hA.alloc _⟩
/-- A row of messages of the call's own, all in blocks from B on. -/
structure Rn (w : World) (B : Nat) (v : Value) (ms : List Ms) (ds : List (Ms × Value)) : Prop where
  row : RM w v ds
  ms : ds.map (·.1) = ms
  each : ∀ d ∈ ds, Own w d.2 d.1.body ∧ (∀ c ∈ d.1.body, 0 ≤ c ∧ c ≤ 255) ∧ (∀ b, d.2.ownBlock = some b → B ≤ b)
  new : ∀ b, v.ownBlock = some b → B ≤ b
theorem Rn.nil (w : World) (B : Nat) : Rn w B (.slice none 0 0) [] [] := ⟨RM.nil w, rfl, by simp, by simp [Value.ownBlock]⟩
theorem Rn.mod {S : Nat → Prop} {w w' : World} {B : Nat} {v : Value} {ms : List Ms} {ds : List (Ms × Value)} (h : Rn w B v ms ds) (hm : Mod S w w') (hS : ∀ b, B ≤ b → b < w.heap.size → ¬ S b) : Rn w' B v ms ds :=
  ⟨h.row.mod hm (fun g hg => hS g (h.new g hg) (h.row.lt g hg)), h.ms, fun d hd => ⟨(h.each d hd).1.mod hm (fun g hg => hS g ((h.each d hd).2.2 g hg) ((h.each d hd).1.lt g hg)), (h.each d hd).2⟩, h.new⟩
theorem Rn.len {w : World} {B : Nat} {v : Value} {ms : List Ms} {ds : List (Ms × Value)} (h : Rn w B v ms ds) : ds.length = ms.length := by rw [← h.ms]; simp
theorem Own.one' {w : World} {v : Value} {l : List Int} (h : Own w v l) : v.oneCell' = true := by
  obtain ⟨ao, cap, rfl⟩ := h.shape
  rfl
theorem Rn.mgs {w : World} {B : Nat} {v : Value} {ms : List Ms} {ds : List (Ms × Value)} (h : Rn w B v ms ds) (hl : ds.length * 120 ≤ 140737488355328) (hb : ∀ m ∈ ms, m.body.length ≤ 140737488355328) : Mgs w v ds :=
  h.row.mgs hl fun d hd => ⟨(h.each d hd).1.sl (h.each d hd).2.1, hb d.1 (by rw [← h.ms]; exact List.mem_map_of_mem hd)⟩
theorem Rn.far {w : World} {B : Nat} {v : Value} {ms : List Ms} {ds : List (Ms × Value)} (h : Rn w B v ms ds) {S : Nat → Prop} (hS : ∀ b, S b → b < B) : Far S v ds :=
  ⟨fun _ b hb hs => by have := h.new b hb; have := hS b hs; omega, fun d hd _ b hb hs => by have := (h.each d hd).2.2 b hb; have := hS b hs; omega⟩
theorem Sc.lit (w : World) (m : Ms) (v : Value) (h : v.oneCell' = true) : Sc (w.alloc (.cells (mcl m v).toArray 40)) (.slice (some ⟨w.heap.size, 0, none⟩) 1 1) [(m, v)] := by
  refine ⟨⟨some ⟨w.heap.size, 0, none⟩, 1, rfl, fun e => absurd e (by simp), fun a ha j c hj => ?_⟩, by simpa using h⟩
  simp only [Option.some.injEq] at ha
  subst ha
  rw [Addr.add_mid, (Bk.new w (mcl m v).toArray 40).cell]
  simpa [fm] using hj
/-- A row with one message more. -/
theorem Rn.push {w W w' : World} {B : Nat} {v v' mv : Value} {ms : List Ms} {ds : List (Ms × Value)} {m : Ms} (h : Rn w B v ms ds) (hW : Mod (fun _ => False) w W) (hr : RM w' v' (ds ++ [(m, mv)])) (ho : Own W mv m.body) (hg : ∀ c ∈ m.body, 0 ≤ c ∧ c ≤ 255) (hb : ∀ b, mv.ownBlock = some b → B ≤ b)
    (hm : Mod (fun k => v.ownBlock = some k) W w') (hf : Fr W v v') (hB : B ≤ W.heap.size) : Rn w' B v' (ms ++ [m]) (ds ++ [(m, mv)]) := by
  have hrW := h.row.mod hW (fun _ _ h => h)
  refine ⟨hr, by rw [List.map_append, h.ms]; rfl, fun d hd => ?_, fun b hb' => ?_⟩
  · rcases List.mem_append.1 hd with hd | hd
    · obtain ⟨a1, a2, a3⟩ := h.each d hd
      have a1W := a1.mod hW (fun _ _ h => h)
      exact ⟨a1W.mod hm (fun g hg e => hrW.own_ne a1W hg e), a2, a3⟩
    · rw [List.mem_singleton] at hd
      subst hd
      exact ⟨ho.mod hm (fun g hg e => hrW.own_ne ho hg e), hg, hb⟩
  · rcases hf b hb' with h1 | h1
    · exact h.new b h1
    · omega
set_option maxRecDepth 100000 in
set_option maxHeartbeats 2000000 in
theorem texts_any (fr n : Nat) (w : World) (h : fr + n ≤ 256) : Calls Try.prog 23 #[.int .i64 (fr : Int), .int .i64 (n : Int)] w fun e w' => ∃ v ds, e = .returned v ∧ Rn w' w.heap.size v ((List.range n).map fun i => tm (fr + i)) ds ∧ Mod (fun _ => False) w w' := by
  have hn : (n : Int) ≤ 256 := by omega
  go_enter Try.func23, Try.ntmps23
  go_wp2_with (fail)
  go_loopw [5, 6] (fun v ci wr => ∃ (j : Nat) (ds : List (Ms × Value)), ci = .int .i64 (j : Int) ∧ j ≤ n ∧ Rn wr w.heap.size v ((List.range j).map fun i => tm (fr + i)) ds ∧ Mod (fun _ => False) w wr) (fun _ ci _ => n - (intOf ci).toNat)
  case atStart => exact ⟨0, [], rfl, Nat.zero_le _, Rn.nil _ _, Mod.refl _ _⟩
  case round =>
    obtain ⟨j, ds, rfl, hj, hR, hMr⟩ := hrel
    by_cases hjn : j < n
    · have hjn' : (j : Int) < (n : Int) := by go_light; omega
      obtain ⟨x, hx⟩ : ∃ x, x = fr + j := ⟨_, rfl⟩
      have hxi : (fr : Int) + (j : Int) = (x : Int) := by go_light; omega
      have hxl : (x : Int) < 256 := by go_light; omega
      have HT := text_any x wr (by go_light; omega)
      have HX : Hid (x = fr + j) := hx
      have hdl : ds.length = j := by rw [hR.len]; simp
      obtain ⟨av, cv, ev⟩ := hR.row.shape
      rw [hdl] at ev
      subst ev
      clear hx
      go_wp2_with (fail)
      refine HT.mono ?_
      rintro e w1 ⟨b, rfl, ho1, hb1, hm1⟩
      clear HT
      obtain ⟨r, er⟩ : ∃ r, r = ((x % 8 : Nat) : Int) := ⟨_, rfl⟩
      have hsc := Sc.lit w1 (tm x) (.slice (some ⟨b, 0, none⟩) 1 1) rfl
      have hA := (Mod.refl (fun _ => False) w1).alloc (.cells (mcl (tm x) (.slice (some ⟨b, 0, none⟩) 1 1)).toArray 40)
      simp only [mcl, tm, ← er] at hsc hA
      have HR : Hid (Rn wr w.heap.size (.slice av j cv) ((List.range j).map fun i => tm (fr + i)) ds) := hR
      have HMA : Hid (Mod (fun _ => False) wr _) := hm1.trans hA (V := fun _ => False) (fun _ _ h => h) (fun _ _ h => h)
      have hrw := hR.row.mod HMA.out (fun _ _ h => h)
      have HO : Hid (Own _ _ _) := ho1.mod hA (fun _ _ h => h)
      have HB : Hid (w.heap.size ≤ b ∧ w.heap.size ≤ w1.heap.size ∧ ds.length = j) := ⟨Nat.le_trans hMr.size hb1, Nat.le_trans hMr.size hm1.size, hdl⟩
      have HMr : Hid (Mod (fun _ => False) w wr) := hMr
      rw [← er]
      have HER : Hid (r = ((x % 8 : Nat) : Int)) := er
      clear hR hA hm1 ho1 hb1 hdl hMr er
      go_wp2_with (refine wpList_appM rfl _ _ rfl (.slice av j cv) (.slice (some ⟨w1.heap.size, 0, none⟩) 1 1) ds [(⟨1, 1 + r, 1, (x : Int), 0, 1, 1, false, 0, 0, 0, 0, [(x : Int)]⟩, .slice (some ⟨b, 0, none⟩) 1 1)] rfl rfl hrw hsc (by rw [HB.out.2.2]; simp; go_light; omega) (j + 1) (by rw [HB.out.2.2]; rfl) ?_; intro ax cx w3 hr3 hm3 hf3; simp only [Act.put, List.setIfInBounds_toArray, List.set_cons_succ, List.set_cons_zero])
      have HN : Hid (Rn w3 w.heap.size (.slice ax (j + 1) cx) ((List.range (j + 1)).map fun i => tm (fr + i)) (ds ++ [(⟨1, 1 + r, 1, (x : Int), 0, 1, 1, false, 0, 0, 0, 0, [(x : Int)]⟩, .slice (some ⟨b, 0, none⟩) 1 1)])) := by
        have := HR.out.push HMA.out hr3 HO.out (by intro c hc; simp at hc; subst hc; go_light; omega) (fun b' hb' => by simp [Value.ownBlock] at hb'; subst hb'; exact HB.out.1) hm3 hf3 (by simp; have := HB.out.2.1; go_light; omega)
        show Rn _ _ _ _ _
        rw [List.range_succ, List.map_append]
        have e : tm (fr + j) = ⟨1, 1 + r, 1, (x : Int), 0, 1, 1, false, 0, 0, 0, 0, [(x : Int)]⟩ := by rw [← HX.out, tm, HER.out]
        simp only [List.map_cons, List.map_nil, e]
        exact this
      have HM3 : Hid (Mod (fun _ => False) w w3) := (HMr.out.trans HMA.out (V := fun _ => False) (fun _ _ h => h) (fun _ _ h => h)).trans hm3 (fun _ _ h => h) (fun b' hb' e => by have := HR.out.new b' e; go_light; omega)
      clear hr3 hm3 hf3 hrw hsc HMA HO HB HMr HR HER HX
      go_wp2_with (fail)
      go_roundw
      case rel => exact ⟨j + 1, _, by go_num, hjn, HN.out, HM3.out⟩
      case measure => simp [intOf]; go_light; omega
    · have ej : j = n := by go_light; omega
      subst ej
      go_wp2_with (fail)
      go_ret
      exact ⟨_, _, rfl, hR, hMr⟩
end Go.Proofs.Ytcedlpjjldmpfaa
