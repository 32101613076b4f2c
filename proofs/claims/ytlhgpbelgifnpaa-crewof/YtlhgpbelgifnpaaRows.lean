/-
  No cell of these rows narrows 'for every input' (looked for: loops, veiled, ifaces, maps, wideKeys, modest, calm, conditions, laid).
  DERIVED. THE GIVEN ROWS OF THIS SEAT. 6 by the template 'for every input the law returns true; each argument reads behind the call as it read before'; 0 by the template 'total and deterministic' (their statements: YtlhgpbelgifnpaaTotals.lean).
  GIVEN WITH THE SEED: the statements are not yours to turn. If you find one false, say at which input.
  Laid BY PROGRAM, IN A SANDBOX (cutbox-rows.mjs): the forced cells as the released guide's own fill.sh prints them over the translation 7df04dfd877c0adf… (all of the seat's roots in one cut). By AI agents, Wed Nov 11 2026. No macro, syntax, notation, axiom, sorry.
-/
import Derived.Test.YtlhgpbelgifnpaaChecked
import GoSem.Claim
import GoSem.ClaimJoined
import GoSem.ClaimMapViews
import Derived.JoinedTies
import Derived.KernelRfl
namespace Go.Proofs.Ytlhgpbelgifnpaa
/- THE CELL 'sum', in the pinned program and in every row, IS THE sha256 OF THE DUMP (.gsa) THAT YtlhgpbelgifnpaaProg.lean LOADS. Nothing in Lean hashes anything: it is a label: what it is worth is what the hold of that sum in a sandbox is worth. -/
noncomputable def Try.pinned : Pinned := { name := "ytlhgpbelgifnpaa", sum := "7df04dfd877c0adf647d81405468b7caf7796d7e22dd120c52e53ed645c85526", checked := Try.checked }
namespace Rows
def none {H : Type} : Left H := { results := [], args := [] }

/-- 'hauberklaw03.CrewTells': WHATEVER THE INPUT: true; the input reads as it did. -/
def crewTellsSpec : ChangeSpec := { name := "crewTells", fn := fun _ => fun
  | [d1, d2] => { results := [.lit (.bool true)], args := [d1, d2] }
  | _ => none }
def crewTellsRow : OpenClaim := { program := "ytlhgpbelgifnpaa", sum := "7df04dfd877c0adf647d81405468b7caf7796d7e22dd120c52e53ed645c85526", func := "hauberk/hauberklaw03.CrewTells", spec := "crewTells", apart := false }
def CrewTellsSaid : Prop := crewTellsRow.holds Try.pinned (OpenSpec.ofChange crewTellsSpec)

/-- ITS FALSE NEIGHBOUR: 'it returns false'. Refute it at one input. -/
def crewTellsWrong : ChangeSpec := { name := "crewTells", fn := fun _ => fun
  | [d1, d2] => { results := [.lit (.bool false)], args := [d1, d2] }
  | _ => none }
def CrewTellsWrongFalsely : Prop := crewTellsRow.holds Try.pinned (OpenSpec.ofChange crewTellsWrong)

/-- 'hauberklaw03.CrewOf': WHATEVER THE INPUT: true; the input reads as it did. -/
def crewOfSpec : ChangeSpec := { name := "crewOf", fn := fun _ => fun
  | [d] => { results := [.lit (.bool true)], args := [d] }
  | _ => none }
def crewOfRow : OpenClaim := { program := "ytlhgpbelgifnpaa", sum := "7df04dfd877c0adf647d81405468b7caf7796d7e22dd120c52e53ed645c85526", func := "hauberk/hauberklaw03.CrewOf", spec := "crewOf", apart := false }
def CrewOfSaid : Prop := crewOfRow.holds Try.pinned (OpenSpec.ofChange crewOfSpec)

/-- ITS FALSE NEIGHBOUR: 'it returns false'. Refute it at one input. -/
def crewOfWrong : ChangeSpec := { name := "crewOf", fn := fun _ => fun
  | [d] => { results := [.lit (.bool false)], args := [d] }
  | _ => none }
def CrewOfWrongFalsely : Prop := crewOfRow.holds Try.pinned (OpenSpec.ofChange crewOfWrong)

/-- 'hauberklaw03.CrewBack': WHATEVER THE INPUT: true; the input reads as it did. -/
def crewBackSpec : ChangeSpec := { name := "crewBack", fn := fun _ => fun
  | [d1, d2] => { results := [.lit (.bool true)], args := [d1, d2] }
  | _ => none }
def crewBackRow : OpenClaim := { program := "ytlhgpbelgifnpaa", sum := "7df04dfd877c0adf647d81405468b7caf7796d7e22dd120c52e53ed645c85526", func := "hauberk/hauberklaw03.CrewBack", spec := "crewBack", apart := false }
def CrewBackSaid : Prop := crewBackRow.holds Try.pinned (OpenSpec.ofChange crewBackSpec)

/-- ITS FALSE NEIGHBOUR: 'it returns false'. Refute it at one input. -/
def crewBackWrong : ChangeSpec := { name := "crewBack", fn := fun _ => fun
  | [d1, d2] => { results := [.lit (.bool false)], args := [d1, d2] }
  | _ => none }
def CrewBackWrongFalsely : Prop := crewBackRow.holds Try.pinned (OpenSpec.ofChange crewBackWrong)

/-- 'hauberklaw03.CrewAround': WHATEVER THE INPUT: true; the input reads as it did. -/
def crewAroundSpec : ChangeSpec := { name := "crewAround", fn := fun _ => fun
  | [d1, d2] => { results := [.lit (.bool true)], args := [d1, d2] }
  | _ => none }
def crewAroundRow : OpenClaim := { program := "ytlhgpbelgifnpaa", sum := "7df04dfd877c0adf647d81405468b7caf7796d7e22dd120c52e53ed645c85526", func := "hauberk/hauberklaw03.CrewAround", spec := "crewAround", apart := false }
def CrewAroundSaid : Prop := crewAroundRow.holds Try.pinned (OpenSpec.ofChange crewAroundSpec)

/-- ITS FALSE NEIGHBOUR: 'it returns false'. Refute it at one input. -/
def crewAroundWrong : ChangeSpec := { name := "crewAround", fn := fun _ => fun
  | [d1, d2] => { results := [.lit (.bool false)], args := [d1, d2] }
  | _ => none }
def CrewAroundWrongFalsely : Prop := crewAroundRow.holds Try.pinned (OpenSpec.ofChange crewAroundWrong)

/-- 'hauberklaw03.CrewTogether': WHATEVER THE INPUT: true; the input reads as it did. -/
def crewTogetherSpec : ChangeSpec := { name := "crewTogether", fn := fun _ => fun
  | [d1, d2] => { results := [.lit (.bool true)], args := [d1, d2] }
  | _ => none }
def crewTogetherRow : OpenClaim := { program := "ytlhgpbelgifnpaa", sum := "7df04dfd877c0adf647d81405468b7caf7796d7e22dd120c52e53ed645c85526", func := "hauberk/hauberklaw03.CrewTogether", spec := "crewTogether", apart := false }
def CrewTogetherSaid : Prop := crewTogetherRow.holds Try.pinned (OpenSpec.ofChange crewTogetherSpec)

/-- ITS FALSE NEIGHBOUR: 'it returns false'. Refute it at one input. -/
def crewTogetherWrong : ChangeSpec := { name := "crewTogether", fn := fun _ => fun
  | [d1, d2] => { results := [.lit (.bool false)], args := [d1, d2] }
  | _ => none }
def CrewTogetherWrongFalsely : Prop := crewTogetherRow.holds Try.pinned (OpenSpec.ofChange crewTogetherWrong)

/-- 'hauberklaw03.CrewKnown': WHATEVER THE INPUT: true; the input reads as it did. -/
def crewKnownSpec : ChangeSpec := { name := "crewKnown", fn := fun _ => fun
  | [] => { results := [.lit (.bool true)], args := [] }
  | _ => none }
def crewKnownRow : OpenClaim := { program := "ytlhgpbelgifnpaa", sum := "7df04dfd877c0adf647d81405468b7caf7796d7e22dd120c52e53ed645c85526", func := "hauberk/hauberklaw03.CrewKnown", spec := "crewKnown", apart := false }
def CrewKnownSaid : Prop := crewKnownRow.holds Try.pinned (OpenSpec.ofChange crewKnownSpec)

/-- ITS FALSE NEIGHBOUR: 'it returns false'. Refute it at one input. -/
def crewKnownWrong : ChangeSpec := { name := "crewKnown", fn := fun _ => fun
  | [] => { results := [.lit (.bool false)], args := [] }
  | _ => none }
def CrewKnownWrongFalsely : Prop := crewKnownRow.holds Try.pinned (OpenSpec.ofChange crewKnownWrong)

/- THE SECOND FORM. 'bulk': how many values and letters a reading holds, each counted each time it is reached (what is shared counts as often as it is met; a slice's spare places count too). A statement '..UptoSaid' is the law's where the arguments, and the package variables that the reading takes, are together of bulk at most 1048576: NARROWER than '..Said'. Prove '..Said' where nothing that the law and all that it calls make is longer than what came in: it says more and counts as full. Else prove '..UptoSaid'. A law counts once. -/
mutual
def uptoBulk {H : Type} : DataW H → Nat
  | .lit (.string bytes) => bytes.length + 1
  | .lit _ => 1
  | .nil => 1
  | .ptr d => uptoBulk d + 1
  | .slice elems spare => uptoBulkAll elems + uptoBulkAll spare + 1
  | .agg parts => uptoBulkAll parts + 1
  | .iface _ d => uptoBulk d + 1
  | .map entries => uptoBulkEntries entries + 1
  | .held _ => 1
def uptoBulkAll {H : Type} : List (DataW H) → Nat
  | [] => 0
  | d :: r => uptoBulk d + uptoBulkAll r
def uptoBulkEntries {H : Type} : List (Lit × DataW H) → Nat
  | [] => 0
  | x :: r => uptoBulkEntry x + uptoBulkEntries r
def uptoBulkEntry {H : Type} : Lit × DataW H → Nat
  | (.string bytes, d) => bytes.length + uptoBulk d + 1
  | (_, d) => uptoBulk d + 1
 end
def uptoSmall : (H : Type) → List (DataW H) → Bool := fun _ ds => decide (uptoBulkAll ds ≤ 1048576)
def OpenSpec.upto (s : _root_.Go.ChangeSpec) : _root_.Go.OpenSpec := { _root_.Go.OpenSpec.ofChange s with cond := some uptoSmall }

/-- 'hauberklaw03.CrewTells', WHERE WHAT IT READS IS OF BULK AT MOST 1048576: true; the input reads as it did. -/
def crewTellsUptoRow : OpenClaim := { program := "ytlhgpbelgifnpaa", sum := "7df04dfd877c0adf647d81405468b7caf7796d7e22dd120c52e53ed645c85526", func := "hauberk/hauberklaw03.CrewTells", spec := "crewTells", apart := false, narrowed := true }
def CrewTellsUptoSaid : Prop := crewTellsUptoRow.holds Try.pinned (OpenSpec.upto crewTellsSpec)

/-- 'hauberklaw03.CrewOf', WHERE WHAT IT READS IS OF BULK AT MOST 1048576: true; the input reads as it did. -/
def crewOfUptoRow : OpenClaim := { program := "ytlhgpbelgifnpaa", sum := "7df04dfd877c0adf647d81405468b7caf7796d7e22dd120c52e53ed645c85526", func := "hauberk/hauberklaw03.CrewOf", spec := "crewOf", apart := false, narrowed := true }
def CrewOfUptoSaid : Prop := crewOfUptoRow.holds Try.pinned (OpenSpec.upto crewOfSpec)

/-- 'hauberklaw03.CrewBack', WHERE WHAT IT READS IS OF BULK AT MOST 1048576: true; the input reads as it did. -/
def crewBackUptoRow : OpenClaim := { program := "ytlhgpbelgifnpaa", sum := "7df04dfd877c0adf647d81405468b7caf7796d7e22dd120c52e53ed645c85526", func := "hauberk/hauberklaw03.CrewBack", spec := "crewBack", apart := false, narrowed := true }
def CrewBackUptoSaid : Prop := crewBackUptoRow.holds Try.pinned (OpenSpec.upto crewBackSpec)

/-- 'hauberklaw03.CrewAround', WHERE WHAT IT READS IS OF BULK AT MOST 1048576: true; the input reads as it did. -/
def crewAroundUptoRow : OpenClaim := { program := "ytlhgpbelgifnpaa", sum := "7df04dfd877c0adf647d81405468b7caf7796d7e22dd120c52e53ed645c85526", func := "hauberk/hauberklaw03.CrewAround", spec := "crewAround", apart := false, narrowed := true }
def CrewAroundUptoSaid : Prop := crewAroundUptoRow.holds Try.pinned (OpenSpec.upto crewAroundSpec)

/-- 'hauberklaw03.CrewTogether', WHERE WHAT IT READS IS OF BULK AT MOST 1048576: true; the input reads as it did. -/
def crewTogetherUptoRow : OpenClaim := { program := "ytlhgpbelgifnpaa", sum := "7df04dfd877c0adf647d81405468b7caf7796d7e22dd120c52e53ed645c85526", func := "hauberk/hauberklaw03.CrewTogether", spec := "crewTogether", apart := false, narrowed := true }
def CrewTogetherUptoSaid : Prop := crewTogetherUptoRow.holds Try.pinned (OpenSpec.upto crewTogetherSpec)

/-- 'hauberklaw03.CrewKnown', WHERE WHAT IT READS IS OF BULK AT MOST 1048576: true; the input reads as it did. -/
def crewKnownUptoRow : OpenClaim := { program := "ytlhgpbelgifnpaa", sum := "7df04dfd877c0adf647d81405468b7caf7796d7e22dd120c52e53ed645c85526", func := "hauberk/hauberklaw03.CrewKnown", spec := "crewKnown", apart := false, narrowed := true }
def CrewKnownUptoSaid : Prop := crewKnownUptoRow.holds Try.pinned (OpenSpec.upto crewKnownSpec)

end Rows
end Go.Proofs.Ytlhgpbelgifnpaa
