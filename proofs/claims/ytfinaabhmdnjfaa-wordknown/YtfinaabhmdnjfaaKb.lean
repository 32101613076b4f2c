/- Laws for the proof of WordKnown: contracts at known answers, literals that are laid one behind the other. No conditions. -/
import Derived.Test.YtfinaabhmdnjfaaKa
namespace Go.Proofs.Ytfinaabhmdnjfaa
open Go.RowKit
theorem info3 : (Try.prog.info? 3).map (fun i => (i.zero, i.size, i.bytes)) = some (some (.int .i64 0), 1, 8) := by kernel_rfl
theorem WFixed_no {p : Nat} {v : Value} {l : List Int} {w : World} (x size e : Int) (h : Wr w p v l) (hx : x ≤ 9223372036854775807) (hE : fwE x size = e) (he : e ≠ 0) :
    Calls Try.prog 14 #[.pointer (some ⟨p, 0, none⟩), .int .i64 x, .int .i64 size] w fun e' w' => e' = .returned (.int .i64 e) ∧ w' = w := by
  have c := WFixed_bad p v l x size w h hx (by rw [hE]; exact he)
  rwa [hE] at c
theorem WFixed_yes {p : Nat} {v : Value} {l : List Int} {w : World} (x size : Int) (m : List Int) (h : Wr w p v l) (hx : x ≤ 9223372036854775807) (hE : fwE x size = 0) (hb : l.length + 8 ≤ 140737488355328) (hm : l ++ fenc size.toNat x.toNat = m) :
    Calls Try.prog 14 #[.pointer (some ⟨p, 0, none⟩), .int .i64 x, .int .i64 size] w fun e w' => e = .returned (.int .i64 0) ∧ ∃ v', Wr w' p v' m ∧ Mod (fun k => k = p ∨ v.ownBlock = some k) w w' ∧ Fr w v v' := by
  have c := WFixed_ok p v l x size w h hx hE hb
  rwa [hm] at c
theorem Fixed_no {p : Nat} {v : Value} {l : List Int} {w : World} (size e : Int) (h : Rd w p v l) (hE : fixE size l = e) (he : e ≠ 0) :
    Calls Try.prog 26 #[.pointer (some ⟨p, 0, none⟩), .int .i64 size] w fun e' w' => e' = .returned (.tuple #[.int .i64 0, .int .i64 e]) ∧ w' = w := by
  have c := Fixed_bad p v l size w h (by rw [hE]; exact he)
  rwa [hE] at c
theorem Octets_no {p : Nat} {v : Value} {l : List Int} {w : World} (most e : Int) (h : Rd w p v l) (hE : octE most l = e) (he : e ≠ 0) :
    Calls Try.prog 28 #[.pointer (some ⟨p, 0, none⟩), .int .i64 most] w fun e' w' => e' = .returned (.tuple #[.slice none 0 0, .int .i64 e]) ∧ w' = w := by
  have c := Octets_bad p v l most w h (by rw [hE]; exact he)
  rwa [hE] at c
theorem lput_at (x : Int) (m : List Int) (w : World) (hx0 : 0 ≤ x) (hx : x ≤ 9007199254740991) (hm : enc x.toNat = m) :
    Calls Try.prog 31 #[.int .i64 x] w fun e w' => ∃ v', e = .returned v' ∧ Own w' v' m ∧ Mod (fun _ => False) w w' := by
  have c := lput_any x w hx0 hx
  rw [hm] at c
  refine c.mono ?_
  rintro e w' ⟨v', he, ho, hmm, _⟩
  exact ⟨v', he, ho, hmm⟩
/-- Literals laid one behind the other. -/
def lay (w : World) : List (List Int) → World
  | [] => w
  | l :: r => lay (w.alloc (.cells (U l).toArray 5)) r
theorem lay_mod : ∀ (ls : List (List Int)) (w : World), Mod (fun _ => False) w (lay w ls)
  | [], w => Mod.refl _ w
  | _ :: r, w => ((Mod.refl (fun _ => False) w).alloc _).trans (lay_mod r _) (fun _ _ h => h) (fun _ _ h => h)
theorem lay_size : ∀ (ls : List (List Int)) (w : World), (lay w ls).heap.size = w.heap.size + ls.length
  | [], w => rfl
  | _ :: r, w => by
    rw [lay, lay_size r]
    simp
    omega
theorem lay_own : ∀ (ls : List (List Int)) (w : World) (i : Nat) (l : List Int), ls[i]? = some l → l.length ≤ maxLen → Own (lay w ls) (.slice (some ⟨w.heap.size + i, 0, none⟩) l.length l.length) l
  | [], w, i, l, h, _ => by simp at h
  | a :: r, w, 0, l, h, hm => by
    simp only [List.getElem?_cons_zero, Option.some.injEq] at h
    subst h
    exact (Own.lit w a hm).mod (lay_mod r _) (fun _ _ h => h)
  | a :: r, w, i + 1, l, h, hm => by
    have := lay_own r (w.alloc (.cells (U a).toArray 5)) i l (by simpa using h) hm
    rw [lay]
    have e : (w.alloc (.cells (U a).toArray 5)).heap.size + i = w.heap.size + (i + 1) := by simp; omega
    rwa [e] at this
def kBS : List (List Int) := [[128], [128, 0], [255, 255, 255, 255, 255, 255, 255, 16], [128, 128, 128, 128, 128, 128, 128, 128], [255, 255, 255, 255, 255, 255, 255, 15], [0, 5], [129, 0, 1]]
def kG : List Int := [0, 3, 0, 0, 3, 1, 0, 4, 2, 0, 4, 8, 0, 4, 8, 9007199254740991, 0, 0, 0, 0, 1, 0, 4, 3]
theorem news3 (w : World) (a b c : Value) : ∀ j u, [a, b, c][j]? = some u → (w.alloc (.cells #[a, b, c] 3)).cell? ((⟨w.heap.size, 0, none⟩ : Addr).add j) = some u :=
  World.news_of_block (heap_alloc_new w (.cells #[a, b, c] 3))
end Go.Proofs.Ytfinaabhmdnjfaa
