/-
  No cell of these rows narrows 'for every input' (looked for: loops, veiled, ifaces, maps, wideKeys, modest, calm, conditions, laid).
  DERIVED. THE GIVEN ROWS OF THIS SEAT. 5 by the template 'for every input the law returns true; each argument reads behind the call as it read before'; 0 by the template 'total and deterministic' (their statements: YtifogbhlphofjaaTotals.lean).
  GIVEN WITH THE SEED: the statements are not yours to turn. If you find one false, say at which input.
  Laid BY PROGRAM, IN A SANDBOX (cutbox-rows.mjs): the forced cells as the released guide's own fill.sh prints them over the translation 1c774203a1030a7b… (all of the seat's roots in one cut). By AI agents, Wed Nov 11 2026. No macro, syntax, notation, axiom, sorry.
-/
import Derived.Test.YtifogbhlphofjaaChecked
import GoSem.Claim
import GoSem.ClaimJoined
import GoSem.ClaimMapViews
import Derived.JoinedTies
import Derived.KernelRfl
namespace Go.Proofs.Ytifogbhlphofjaa
/- THE CELL 'sum', in the pinned program and in every row, IS THE sha256 OF THE DUMP (.gsa) THAT YtifogbhlphofjaaProg.lean LOADS. Nothing in Lean hashes anything: it is a label: what it is worth is what the hold of that sum in a sandbox is worth. -/
noncomputable def Try.pinned : Pinned := { name := "ytifogbhlphofjaa", sum := "1c774203a1030a7bc0af1abc8156914f5a39786abd9b0356f77285ba07517796", checked := Try.checked }
namespace Rows
def none {H : Type} : Left H := { results := [], args := [] }

/-- 'hauberklaw12.PieceSplits': WHATEVER THE INPUT: true; the input reads as it did. -/
def pieceSplitsSpec : ChangeSpec := { name := "pieceSplits", fn := fun _ => fun
  | [d1, d2] => { results := [.lit (.bool true)], args := [d1, d2] }
  | _ => none }
def pieceSplitsRow : OpenClaim := { program := "ytifogbhlphofjaa", sum := "1c774203a1030a7bc0af1abc8156914f5a39786abd9b0356f77285ba07517796", func := "hauberk/hauberklaw12.PieceSplits", spec := "pieceSplits", unfollowed := true, recurses := true, plainKeys := false, apart := false }
def PieceSplitsSaid : Prop := pieceSplitsRow.holds Try.pinned (OpenSpec.ofChange pieceSplitsSpec)

/-- ITS FALSE NEIGHBOUR: 'it returns false'. Refute it at one input. -/
def pieceSplitsWrong : ChangeSpec := { name := "pieceSplits", fn := fun _ => fun
  | [d1, d2] => { results := [.lit (.bool false)], args := [d1, d2] }
  | _ => none }
def PieceSplitsWrongFalsely : Prop := pieceSplitsRow.holds Try.pinned (OpenSpec.ofChange pieceSplitsWrong)

/-- 'hauberklaw12.PiecePuts': WHATEVER THE INPUT: true; the input reads as it did. -/
def piecePutsSpec : ChangeSpec := { name := "piecePuts", fn := fun _ => fun
  | [d] => { results := [.lit (.bool true)], args := [d] }
  | _ => none }
def piecePutsRow : OpenClaim := { program := "ytifogbhlphofjaa", sum := "1c774203a1030a7bc0af1abc8156914f5a39786abd9b0356f77285ba07517796", func := "hauberk/hauberklaw12.PiecePuts", spec := "piecePuts", unfollowed := true, recurses := true, plainKeys := false, apart := false }
def PiecePutsSaid : Prop := piecePutsRow.holds Try.pinned (OpenSpec.ofChange piecePutsSpec)

/-- ITS FALSE NEIGHBOUR: 'it returns false'. Refute it at one input. -/
def piecePutsWrong : ChangeSpec := { name := "piecePuts", fn := fun _ => fun
  | [d] => { results := [.lit (.bool false)], args := [d] }
  | _ => none }
def PiecePutsWrongFalsely : Prop := piecePutsRow.holds Try.pinned (OpenSpec.ofChange piecePutsWrong)

/-- 'hauberklaw12.PieceBack': WHATEVER THE INPUT: true; the input reads as it did. -/
def pieceBackSpec : ChangeSpec := { name := "pieceBack", fn := fun _ => fun
  | [d1, d2] => { results := [.lit (.bool true)], args := [d1, d2] }
  | _ => none }
def pieceBackRow : OpenClaim := { program := "ytifogbhlphofjaa", sum := "1c774203a1030a7bc0af1abc8156914f5a39786abd9b0356f77285ba07517796", func := "hauberk/hauberklaw12.PieceBack", spec := "pieceBack", unfollowed := true, recurses := true, plainKeys := false, apart := false }
def PieceBackSaid : Prop := pieceBackRow.holds Try.pinned (OpenSpec.ofChange pieceBackSpec)

/-- ITS FALSE NEIGHBOUR: 'it returns false'. Refute it at one input. -/
def pieceBackWrong : ChangeSpec := { name := "pieceBack", fn := fun _ => fun
  | [d1, d2] => { results := [.lit (.bool false)], args := [d1, d2] }
  | _ => none }
def PieceBackWrongFalsely : Prop := pieceBackRow.holds Try.pinned (OpenSpec.ofChange pieceBackWrong)

/-- 'hauberklaw12.PieceApart': WHATEVER THE INPUT: true; the input reads as it did. -/
def pieceApartSpec : ChangeSpec := { name := "pieceApart", fn := fun _ => fun
  | [d1, d2] => { results := [.lit (.bool true)], args := [d1, d2] }
  | _ => none }
def pieceApartRow : OpenClaim := { program := "ytifogbhlphofjaa", sum := "1c774203a1030a7bc0af1abc8156914f5a39786abd9b0356f77285ba07517796", func := "hauberk/hauberklaw12.PieceApart", spec := "pieceApart", unfollowed := true, recurses := true, plainKeys := false, apart := false }
def PieceApartSaid : Prop := pieceApartRow.holds Try.pinned (OpenSpec.ofChange pieceApartSpec)

/-- ITS FALSE NEIGHBOUR: 'it returns false'. Refute it at one input. -/
def pieceApartWrong : ChangeSpec := { name := "pieceApart", fn := fun _ => fun
  | [d1, d2] => { results := [.lit (.bool false)], args := [d1, d2] }
  | _ => none }
def PieceApartWrongFalsely : Prop := pieceApartRow.holds Try.pinned (OpenSpec.ofChange pieceApartWrong)

/-- 'hauberklaw12.PieceKnown': WHATEVER THE INPUT: true; the input reads as it did. -/
def pieceKnownSpec : ChangeSpec := { name := "pieceKnown", fn := fun _ => fun
  | [] => { results := [.lit (.bool true)], args := [] }
  | _ => none }
def pieceKnownRow : OpenClaim := { program := "ytifogbhlphofjaa", sum := "1c774203a1030a7bc0af1abc8156914f5a39786abd9b0356f77285ba07517796", func := "hauberk/hauberklaw12.PieceKnown", spec := "pieceKnown", unfollowed := true, recurses := true, plainKeys := false, apart := false }
def PieceKnownSaid : Prop := pieceKnownRow.holds Try.pinned (OpenSpec.ofChange pieceKnownSpec)

/-- ITS FALSE NEIGHBOUR: 'it returns false'. Refute it at one input. -/
def pieceKnownWrong : ChangeSpec := { name := "pieceKnown", fn := fun _ => fun
  | [] => { results := [.lit (.bool false)], args := [] }
  | _ => none }
def PieceKnownWrongFalsely : Prop := pieceKnownRow.holds Try.pinned (OpenSpec.ofChange pieceKnownWrong)

/- THE SECOND FORM. 'bulk': how many values and letters a reading holds, each counted each time it is reached (what is shared counts as often as it is met; a slice's spare places count too). A statement '..UptoSaid' is the law's where the arguments, and the package variables that the reading takes, are together of bulk at most 1048576: NARROWER than '..Said'. Prove '..Said' where nothing that the law and all that it calls make is longer than what came in: it says more and counts as full. Else prove '..UptoSaid'. A law counts once. -/
mutual
def uptoBulk {H : Type} : DataW H → Nat
  | .lit (.string bytes) => bytes.length + 1
  | .lit _ => 1
  | .nil => 1
  | .ptr d => uptoBulk d + 1
  | .slice elems spare => uptoBulkAll elems + uptoBulkAll spare + 1
  | .agg parts => uptoBulkAll parts + 1
  | .iface _ d => uptoBulk d + 1
  | .map entries => uptoBulkEntries entries + 1
  | .held _ => 1
def uptoBulkAll {H : Type} : List (DataW H) → Nat
  | [] => 0
  | d :: r => uptoBulk d + uptoBulkAll r
def uptoBulkEntries {H : Type} : List (Lit × DataW H) → Nat
  | [] => 0
  | x :: r => uptoBulkEntry x + uptoBulkEntries r
def uptoBulkEntry {H : Type} : Lit × DataW H → Nat
  | (.string bytes, d) => bytes.length + uptoBulk d + 1
  | (_, d) => uptoBulk d + 1
 end
def uptoSmall : (H : Type) → List (DataW H) → Bool := fun _ ds => decide (uptoBulkAll ds ≤ 1048576)
def OpenSpec.upto (s : _root_.Go.ChangeSpec) : _root_.Go.OpenSpec := { _root_.Go.OpenSpec.ofChange s with cond := some uptoSmall }

/-- 'hauberklaw12.PieceSplits', WHERE WHAT IT READS IS OF BULK AT MOST 1048576: true; the input reads as it did. -/
def pieceSplitsUptoRow : OpenClaim := { program := "ytifogbhlphofjaa", sum := "1c774203a1030a7bc0af1abc8156914f5a39786abd9b0356f77285ba07517796", func := "hauberk/hauberklaw12.PieceSplits", spec := "pieceSplits", unfollowed := true, recurses := true, plainKeys := false, apart := false, narrowed := true }
def PieceSplitsUptoSaid : Prop := pieceSplitsUptoRow.holds Try.pinned (OpenSpec.upto pieceSplitsSpec)

/-- 'hauberklaw12.PiecePuts', WHERE WHAT IT READS IS OF BULK AT MOST 1048576: true; the input reads as it did. -/
def piecePutsUptoRow : OpenClaim := { program := "ytifogbhlphofjaa", sum := "1c774203a1030a7bc0af1abc8156914f5a39786abd9b0356f77285ba07517796", func := "hauberk/hauberklaw12.PiecePuts", spec := "piecePuts", unfollowed := true, recurses := true, plainKeys := false, apart := false, narrowed := true }
def PiecePutsUptoSaid : Prop := piecePutsUptoRow.holds Try.pinned (OpenSpec.upto piecePutsSpec)

/-- 'hauberklaw12.PieceBack', WHERE WHAT IT READS IS OF BULK AT MOST 1048576: true; the input reads as it did. -/
def pieceBackUptoRow : OpenClaim := { program := "ytifogbhlphofjaa", sum := "1c774203a1030a7bc0af1abc8156914f5a39786abd9b0356f77285ba07517796", func := "hauberk/hauberklaw12.PieceBack", spec := "pieceBack", unfollowed := true, recurses := true, plainKeys := false, apart := false, narrowed := true }
def PieceBackUptoSaid : Prop := pieceBackUptoRow.holds Try.pinned (OpenSpec.upto pieceBackSpec)

/-- 'hauberklaw12.PieceApart', WHERE WHAT IT READS IS OF BULK AT MOST 1048576: true; the input reads as it did. -/
def pieceApartUptoRow : OpenClaim := { program := "ytifogbhlphofjaa", sum := "1c774203a1030a7bc0af1abc8156914f5a39786abd9b0356f77285ba07517796", func := "hauberk/hauberklaw12.PieceApart", spec := "pieceApart", unfollowed := true, recurses := true, plainKeys := false, apart := false, narrowed := true }
def PieceApartUptoSaid : Prop := pieceApartUptoRow.holds Try.pinned (OpenSpec.upto pieceApartSpec)

/-- 'hauberklaw12.PieceKnown', WHERE WHAT IT READS IS OF BULK AT MOST 1048576: true; the input reads as it did. -/
def pieceKnownUptoRow : OpenClaim := { program := "ytifogbhlphofjaa", sum := "1c774203a1030a7bc0af1abc8156914f5a39786abd9b0356f77285ba07517796", func := "hauberk/hauberklaw12.PieceKnown", spec := "pieceKnown", unfollowed := true, recurses := true, plainKeys := false, apart := false, narrowed := true }
def PieceKnownUptoSaid : Prop := pieceKnownUptoRow.holds Try.pinned (OpenSpec.upto pieceKnownSpec)

end Rows
end Go.Proofs.Ytifogbhlphofjaa
