/-
  No cell of these rows narrows 'for every input' (looked for: loops, veiled, ifaces, maps, wideKeys, modest, calm, conditions, laid).
  DERIVED. THE GIVEN ROWS OF THIS SEAT. 4 by the template 'for every input the law returns true; each argument reads behind the call as it read before'; 0 by the template 'total and deterministic' (their statements: YtkpocogobcefpaaTotals.lean).
  GIVEN WITH THE SEED: the statements are not yours to turn. If you find one false, say at which input.
  Laid BY PROGRAM, IN A SANDBOX (cutbox-rows.mjs): the forced cells as the released guide's own fill.sh prints them over the translation e84d4121ea568c59… (all of the seat's roots in one cut). By AI agents, Wed Nov 11 2026. No macro, syntax, notation, axiom, sorry.
-/
import Derived.Test.YtkpocogobcefpaaChecked
import GoSem.Claim
import GoSem.ClaimJoined
import GoSem.ClaimMapViews
import Derived.JoinedTies
import Derived.KernelRfl
namespace Go.Proofs.Ytkpocogobcefpaa
/- THE CELL 'sum', in the pinned program and in every row, IS THE sha256 OF THE DUMP (.gsa) THAT YtkpocogobcefpaaProg.lean LOADS. Nothing in Lean hashes anything: it is a label: what it is worth is what the hold of that sum in a sandbox is worth. -/
noncomputable def Try.pinned : Pinned := { name := "ytkpocogobcefpaa", sum := "e84d4121ea568c5914e3604d6aba0a6f831d82c45904e61612c303c28ccff56f", checked := Try.checked }
namespace Rows
def none {H : Type} : Left H := { results := [], args := [] }

/-- 'hauberklaw07.CellDeeds': WHATEVER THE INPUT: true; the input reads as it did. -/
def cellDeedsSpec : ChangeSpec := { name := "cellDeeds", fn := fun _ => fun
  | [d] => { results := [.lit (.bool true)], args := [d] }
  | _ => none }
def cellDeedsRow : OpenClaim := { program := "ytkpocogobcefpaa", sum := "e84d4121ea568c5914e3604d6aba0a6f831d82c45904e61612c303c28ccff56f", func := "hauberk/hauberklaw07.CellDeeds", spec := "cellDeeds", apart := false }
def CellDeedsSaid : Prop := cellDeedsRow.holds Try.pinned (OpenSpec.ofChange cellDeedsSpec)

/-- ITS FALSE NEIGHBOUR: 'it returns false'. Refute it at one input. -/
def cellDeedsWrong : ChangeSpec := { name := "cellDeeds", fn := fun _ => fun
  | [d] => { results := [.lit (.bool false)], args := [d] }
  | _ => none }
def CellDeedsWrongFalsely : Prop := cellDeedsRow.holds Try.pinned (OpenSpec.ofChange cellDeedsWrong)

/-- 'hauberklaw07.CellRises': WHATEVER THE INPUT: true; the input reads as it did. -/
def cellRisesSpec : ChangeSpec := { name := "cellRises", fn := fun _ => fun
  | [d] => { results := [.lit (.bool true)], args := [d] }
  | _ => none }
def cellRisesRow : OpenClaim := { program := "ytkpocogobcefpaa", sum := "e84d4121ea568c5914e3604d6aba0a6f831d82c45904e61612c303c28ccff56f", func := "hauberk/hauberklaw07.CellRises", spec := "cellRises", apart := false }
def CellRisesSaid : Prop := cellRisesRow.holds Try.pinned (OpenSpec.ofChange cellRisesSpec)

/-- ITS FALSE NEIGHBOUR: 'it returns false'. Refute it at one input. -/
def cellRisesWrong : ChangeSpec := { name := "cellRises", fn := fun _ => fun
  | [d] => { results := [.lit (.bool false)], args := [d] }
  | _ => none }
def CellRisesWrongFalsely : Prop := cellRisesRow.holds Try.pinned (OpenSpec.ofChange cellRisesWrong)

/-- 'hauberklaw07.CellRefused': WHATEVER THE INPUT: true; the input reads as it did. -/
def cellRefusedSpec : ChangeSpec := { name := "cellRefused", fn := fun _ => fun
  | [d] => { results := [.lit (.bool true)], args := [d] }
  | _ => none }
def cellRefusedRow : OpenClaim := { program := "ytkpocogobcefpaa", sum := "e84d4121ea568c5914e3604d6aba0a6f831d82c45904e61612c303c28ccff56f", func := "hauberk/hauberklaw07.CellRefused", spec := "cellRefused", apart := false }
def CellRefusedSaid : Prop := cellRefusedRow.holds Try.pinned (OpenSpec.ofChange cellRefusedSpec)

/-- ITS FALSE NEIGHBOUR: 'it returns false'. Refute it at one input. -/
def cellRefusedWrong : ChangeSpec := { name := "cellRefused", fn := fun _ => fun
  | [d] => { results := [.lit (.bool false)], args := [d] }
  | _ => none }
def CellRefusedWrongFalsely : Prop := cellRefusedRow.holds Try.pinned (OpenSpec.ofChange cellRefusedWrong)

/-- 'hauberklaw07.CellKnown': WHATEVER THE INPUT: true; the input reads as it did. -/
def cellKnownSpec : ChangeSpec := { name := "cellKnown", fn := fun _ => fun
  | [] => { results := [.lit (.bool true)], args := [] }
  | _ => none }
def cellKnownRow : OpenClaim := { program := "ytkpocogobcefpaa", sum := "e84d4121ea568c5914e3604d6aba0a6f831d82c45904e61612c303c28ccff56f", func := "hauberk/hauberklaw07.CellKnown", spec := "cellKnown", apart := false }
def CellKnownSaid : Prop := cellKnownRow.holds Try.pinned (OpenSpec.ofChange cellKnownSpec)

/-- ITS FALSE NEIGHBOUR: 'it returns false'. Refute it at one input. -/
def cellKnownWrong : ChangeSpec := { name := "cellKnown", fn := fun _ => fun
  | [] => { results := [.lit (.bool false)], args := [] }
  | _ => none }
def CellKnownWrongFalsely : Prop := cellKnownRow.holds Try.pinned (OpenSpec.ofChange cellKnownWrong)

/- THE SECOND FORM. 'bulk': how many values and letters a reading holds, each counted each time it is reached (what is shared counts as often as it is met; a slice's spare places count too). A statement '..UptoSaid' is the law's where the arguments, and the package variables that the reading takes, are together of bulk at most 1048576: NARROWER than '..Said'. Prove '..Said' where nothing that the law and all that it calls make is longer than what came in: it says more and counts as full. Else prove '..UptoSaid'. A law counts once. -/
mutual
def uptoBulk {H : Type} : DataW H → Nat
  | .lit (.string bytes) => bytes.length + 1
  | .lit _ => 1
  | .nil => 1
  | .ptr d => uptoBulk d + 1
  | .slice elems spare => uptoBulkAll elems + uptoBulkAll spare + 1
  | .agg parts => uptoBulkAll parts + 1
  | .iface _ d => uptoBulk d + 1
  | .map entries => uptoBulkEntries entries + 1
  | .held _ => 1
def uptoBulkAll {H : Type} : List (DataW H) → Nat
  | [] => 0
  | d :: r => uptoBulk d + uptoBulkAll r
def uptoBulkEntries {H : Type} : List (Lit × DataW H) → Nat
  | [] => 0
  | x :: r => uptoBulkEntry x + uptoBulkEntries r
def uptoBulkEntry {H : Type} : Lit × DataW H → Nat
  | (.string bytes, d) => bytes.length + uptoBulk d + 1
  | (_, d) => uptoBulk d + 1
 end
def uptoSmall : (H : Type) → List (DataW H) → Bool := fun _ ds => decide (uptoBulkAll ds ≤ 1048576)
def OpenSpec.upto (s : _root_.Go.ChangeSpec) : _root_.Go.OpenSpec := { _root_.Go.OpenSpec.ofChange s with cond := some uptoSmall }

/-- 'hauberklaw07.CellDeeds', WHERE WHAT IT READS IS OF BULK AT MOST 1048576: true; the input reads as it did. -/
def cellDeedsUptoRow : OpenClaim := { program := "ytkpocogobcefpaa", sum := "e84d4121ea568c5914e3604d6aba0a6f831d82c45904e61612c303c28ccff56f", func := "hauberk/hauberklaw07.CellDeeds", spec := "cellDeeds", apart := false, narrowed := true }
def CellDeedsUptoSaid : Prop := cellDeedsUptoRow.holds Try.pinned (OpenSpec.upto cellDeedsSpec)

/-- 'hauberklaw07.CellRises', WHERE WHAT IT READS IS OF BULK AT MOST 1048576: true; the input reads as it did. -/
def cellRisesUptoRow : OpenClaim := { program := "ytkpocogobcefpaa", sum := "e84d4121ea568c5914e3604d6aba0a6f831d82c45904e61612c303c28ccff56f", func := "hauberk/hauberklaw07.CellRises", spec := "cellRises", apart := false, narrowed := true }
def CellRisesUptoSaid : Prop := cellRisesUptoRow.holds Try.pinned (OpenSpec.upto cellRisesSpec)

/-- 'hauberklaw07.CellRefused', WHERE WHAT IT READS IS OF BULK AT MOST 1048576: true; the input reads as it did. -/
def cellRefusedUptoRow : OpenClaim := { program := "ytkpocogobcefpaa", sum := "e84d4121ea568c5914e3604d6aba0a6f831d82c45904e61612c303c28ccff56f", func := "hauberk/hauberklaw07.CellRefused", spec := "cellRefused", apart := false, narrowed := true }
def CellRefusedUptoSaid : Prop := cellRefusedUptoRow.holds Try.pinned (OpenSpec.upto cellRefusedSpec)

/-- 'hauberklaw07.CellKnown', WHERE WHAT IT READS IS OF BULK AT MOST 1048576: true; the input reads as it did. -/
def cellKnownUptoRow : OpenClaim := { program := "ytkpocogobcefpaa", sum := "e84d4121ea568c5914e3604d6aba0a6f831d82c45904e61612c303c28ccff56f", func := "hauberk/hauberklaw07.CellKnown", spec := "cellKnown", apart := false, narrowed := true }
def CellKnownUptoSaid : Prop := cellKnownUptoRow.holds Try.pinned (OpenSpec.upto cellKnownSpec)

end Rows
end Go.Proofs.Ytkpocogobcefpaa
