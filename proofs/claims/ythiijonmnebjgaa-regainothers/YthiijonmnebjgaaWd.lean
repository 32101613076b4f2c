/- Contract of EqBytes: for any two slices of bytes it answers whether they hold the same bytes, and turns nothing. -/
import Derived.Test.YthiijonmnebjgaaWc
import Derived.Deep.QuietTactic
import Derived.BigQuiet
namespace Go.Proofs.Ythiijonmnebjgaa
open Go.RowKit
theorem eq_take {a b : List Int} {k : Nat} (ha : k < a.length) (hb : k < b.length) (h : a.take k = b.take k) (hk : a.getD k 0 = b.getD k 0) : a.take (k + 1) = b.take (k + 1) := by
  rw [List.take_succ_eq_append_getElem ha, List.take_succ_eq_append_getElem hb, h]
  simp [ha, hb] at hk
  rw [hk]
end Go.Proofs.Ythiijonmnebjgaa
