/-
  No cell of these rows narrows 'for every input' (looked for: loops, veiled, ifaces, maps, wideKeys, modest, calm, conditions, laid).
  DERIVED. THE GIVEN ROWS OF THIS SEAT. 9 by the template 'for every input the law returns true; each argument reads behind the call as it read before'; 0 by the template 'total and deterministic' (their statements: YtajhpnfpjickbaaTotals.lean).
  GIVEN WITH THE SEED: the statements are not yours to turn. If you find one false, say at which input.
  Laid BY PROGRAM, IN A SANDBOX (cutbox-rows.mjs): the forced cells as the released guide's own fill.sh prints them over the translation 8ea3cf71202e5d61… (all of the seat's roots in one cut). By AI agents, Wed Nov 11 2026. No macro, syntax, notation, axiom, sorry.
-/
import Derived.Test.YtajhpnfpjickbaaChecked
import GoSem.Claim
import GoSem.ClaimJoined
import GoSem.ClaimMapViews
import Derived.JoinedTies
import Derived.KernelRfl
namespace Go.Proofs.Ytajhpnfpjickbaa
/- THE CELL 'sum', in the pinned program and in every row, IS THE sha256 OF THE DUMP (.gsa) THAT YtajhpnfpjickbaaProg.lean LOADS. Nothing in Lean hashes anything: it is a label: what it is worth is what the hold of that sum in a sandbox is worth. -/
noncomputable def Try.pinned : Pinned := { name := "ytajhpnfpjickbaa", sum := "8ea3cf71202e5d61adba35c60b6e8dd237381216a97b2046a1cdef9db5e5b5db", checked := Try.checked }
namespace Rows
def none {H : Type} : Left H := { results := [], args := [] }

/-- 'hauberklaw05.ParcelPacks': WHATEVER THE INPUT: true; the input reads as it did. -/
def parcelPacksSpec : ChangeSpec := { name := "parcelPacks", fn := fun _ => fun
  | [d] => { results := [.lit (.bool true)], args := [d] }
  | _ => none }
def parcelPacksRow : OpenClaim := { program := "ytajhpnfpjickbaa", sum := "8ea3cf71202e5d61adba35c60b6e8dd237381216a97b2046a1cdef9db5e5b5db", func := "hauberk/hauberklaw05.ParcelPacks", spec := "parcelPacks", unfollowed := true, recurses := true, apart := false }
def ParcelPacksSaid : Prop := parcelPacksRow.holds Try.pinned (OpenSpec.ofChange parcelPacksSpec)

/-- ITS FALSE NEIGHBOUR: 'it returns false'. Refute it at one input. -/
def parcelPacksWrong : ChangeSpec := { name := "parcelPacks", fn := fun _ => fun
  | [d] => { results := [.lit (.bool false)], args := [d] }
  | _ => none }
def ParcelPacksWrongFalsely : Prop := parcelPacksRow.holds Try.pinned (OpenSpec.ofChange parcelPacksWrong)

/-- 'hauberklaw05.ParcelUnpacks': WHATEVER THE INPUT: true; the input reads as it did. -/
def parcelUnpacksSpec : ChangeSpec := { name := "parcelUnpacks", fn := fun _ => fun
  | [d] => { results := [.lit (.bool true)], args := [d] }
  | _ => none }
def parcelUnpacksRow : OpenClaim := { program := "ytajhpnfpjickbaa", sum := "8ea3cf71202e5d61adba35c60b6e8dd237381216a97b2046a1cdef9db5e5b5db", func := "hauberk/hauberklaw05.ParcelUnpacks", spec := "parcelUnpacks", unfollowed := true, recurses := true, apart := false }
def ParcelUnpacksSaid : Prop := parcelUnpacksRow.holds Try.pinned (OpenSpec.ofChange parcelUnpacksSpec)

/-- ITS FALSE NEIGHBOUR: 'it returns false'. Refute it at one input. -/
def parcelUnpacksWrong : ChangeSpec := { name := "parcelUnpacks", fn := fun _ => fun
  | [d] => { results := [.lit (.bool false)], args := [d] }
  | _ => none }
def ParcelUnpacksWrongFalsely : Prop := parcelUnpacksRow.holds Try.pinned (OpenSpec.ofChange parcelUnpacksWrong)

/-- 'hauberklaw05.ParcelCharts': WHATEVER THE INPUT: true; the input reads as it did. -/
def parcelChartsSpec : ChangeSpec := { name := "parcelCharts", fn := fun _ => fun
  | [d] => { results := [.lit (.bool true)], args := [d] }
  | _ => none }
def parcelChartsRow : OpenClaim := { program := "ytajhpnfpjickbaa", sum := "8ea3cf71202e5d61adba35c60b6e8dd237381216a97b2046a1cdef9db5e5b5db", func := "hauberk/hauberklaw05.ParcelCharts", spec := "parcelCharts", unfollowed := true, recurses := true, apart := false }
def ParcelChartsSaid : Prop := parcelChartsRow.holds Try.pinned (OpenSpec.ofChange parcelChartsSpec)

/-- ITS FALSE NEIGHBOUR: 'it returns false'. Refute it at one input. -/
def parcelChartsWrong : ChangeSpec := { name := "parcelCharts", fn := fun _ => fun
  | [d] => { results := [.lit (.bool false)], args := [d] }
  | _ => none }
def ParcelChartsWrongFalsely : Prop := parcelChartsRow.holds Try.pinned (OpenSpec.ofChange parcelChartsWrong)

/-- 'hauberklaw05.ParcelOlds': WHATEVER THE INPUT: true; the input reads as it did. -/
def parcelOldsSpec : ChangeSpec := { name := "parcelOlds", fn := fun _ => fun
  | [d1, d2] => { results := [.lit (.bool true)], args := [d1, d2] }
  | _ => none }
def parcelOldsRow : OpenClaim := { program := "ytajhpnfpjickbaa", sum := "8ea3cf71202e5d61adba35c60b6e8dd237381216a97b2046a1cdef9db5e5b5db", func := "hauberk/hauberklaw05.ParcelOlds", spec := "parcelOlds", unfollowed := true, recurses := true, apart := false }
def ParcelOldsSaid : Prop := parcelOldsRow.holds Try.pinned (OpenSpec.ofChange parcelOldsSpec)

/-- ITS FALSE NEIGHBOUR: 'it returns false'. Refute it at one input. -/
def parcelOldsWrong : ChangeSpec := { name := "parcelOlds", fn := fun _ => fun
  | [d1, d2] => { results := [.lit (.bool false)], args := [d1, d2] }
  | _ => none }
def ParcelOldsWrongFalsely : Prop := parcelOldsRow.holds Try.pinned (OpenSpec.ofChange parcelOldsWrong)

/-- 'hauberklaw05.ParcelAgain': WHATEVER THE INPUT: true; the input reads as it did. -/
def parcelAgainSpec : ChangeSpec := { name := "parcelAgain", fn := fun _ => fun
  | [d] => { results := [.lit (.bool true)], args := [d] }
  | _ => none }
def parcelAgainRow : OpenClaim := { program := "ytajhpnfpjickbaa", sum := "8ea3cf71202e5d61adba35c60b6e8dd237381216a97b2046a1cdef9db5e5b5db", func := "hauberk/hauberklaw05.ParcelAgain", spec := "parcelAgain", unfollowed := true, recurses := true, apart := false }
def ParcelAgainSaid : Prop := parcelAgainRow.holds Try.pinned (OpenSpec.ofChange parcelAgainSpec)

/-- ITS FALSE NEIGHBOUR: 'it returns false'. Refute it at one input. -/
def parcelAgainWrong : ChangeSpec := { name := "parcelAgain", fn := fun _ => fun
  | [d] => { results := [.lit (.bool false)], args := [d] }
  | _ => none }
def ParcelAgainWrongFalsely : Prop := parcelAgainRow.holds Try.pinned (OpenSpec.ofChange parcelAgainWrong)

/-- 'hauberklaw05.ParcelNames': WHATEVER THE INPUT: true; the input reads as it did. -/
def parcelNamesSpec : ChangeSpec := { name := "parcelNames", fn := fun _ => fun
  | [] => { results := [.lit (.bool true)], args := [] }
  | _ => none }
def parcelNamesRow : OpenClaim := { program := "ytajhpnfpjickbaa", sum := "8ea3cf71202e5d61adba35c60b6e8dd237381216a97b2046a1cdef9db5e5b5db", func := "hauberk/hauberklaw05.ParcelNames", spec := "parcelNames", unfollowed := true, recurses := true, apart := false }
def ParcelNamesSaid : Prop := parcelNamesRow.holds Try.pinned (OpenSpec.ofChange parcelNamesSpec)

/-- ITS FALSE NEIGHBOUR: 'it returns false'. Refute it at one input. -/
def parcelNamesWrong : ChangeSpec := { name := "parcelNames", fn := fun _ => fun
  | [] => { results := [.lit (.bool false)], args := [] }
  | _ => none }
def ParcelNamesWrongFalsely : Prop := parcelNamesRow.holds Try.pinned (OpenSpec.ofChange parcelNamesWrong)

/-- 'hauberklaw06.PacketBack': WHATEVER THE INPUT: true; the input reads as it did. -/
def packetBackSpec : ChangeSpec := { name := "packetBack", fn := fun _ => fun
  | [d] => { results := [.lit (.bool true)], args := [d] }
  | _ => none }
def packetBackRow : OpenClaim := { program := "ytajhpnfpjickbaa", sum := "8ea3cf71202e5d61adba35c60b6e8dd237381216a97b2046a1cdef9db5e5b5db", func := "hauberk/hauberklaw06.PacketBack", spec := "packetBack", unfollowed := true, recurses := true, apart := false }
def PacketBackSaid : Prop := packetBackRow.holds Try.pinned (OpenSpec.ofChange packetBackSpec)

/-- ITS FALSE NEIGHBOUR: 'it returns false'. Refute it at one input. -/
def packetBackWrong : ChangeSpec := { name := "packetBack", fn := fun _ => fun
  | [d] => { results := [.lit (.bool false)], args := [d] }
  | _ => none }
def PacketBackWrongFalsely : Prop := packetBackRow.holds Try.pinned (OpenSpec.ofChange packetBackWrong)

/-- 'hauberklaw06.PacketOnce': WHATEVER THE INPUT: true; the input reads as it did. -/
def packetOnceSpec : ChangeSpec := { name := "packetOnce", fn := fun _ => fun
  | [d] => { results := [.lit (.bool true)], args := [d] }
  | _ => none }
def packetOnceRow : OpenClaim := { program := "ytajhpnfpjickbaa", sum := "8ea3cf71202e5d61adba35c60b6e8dd237381216a97b2046a1cdef9db5e5b5db", func := "hauberk/hauberklaw06.PacketOnce", spec := "packetOnce", unfollowed := true, recurses := true, apart := false }
def PacketOnceSaid : Prop := packetOnceRow.holds Try.pinned (OpenSpec.ofChange packetOnceSpec)

/-- ITS FALSE NEIGHBOUR: 'it returns false'. Refute it at one input. -/
def packetOnceWrong : ChangeSpec := { name := "packetOnce", fn := fun _ => fun
  | [d] => { results := [.lit (.bool false)], args := [d] }
  | _ => none }
def PacketOnceWrongFalsely : Prop := packetOnceRow.holds Try.pinned (OpenSpec.ofChange packetOnceWrong)

/-- 'hauberklaw06.PacketTurned': WHATEVER THE INPUT: true; the input reads as it did. -/
def packetTurnedSpec : ChangeSpec := { name := "packetTurned", fn := fun _ => fun
  | [d1, d2] => { results := [.lit (.bool true)], args := [d1, d2] }
  | _ => none }
def packetTurnedRow : OpenClaim := { program := "ytajhpnfpjickbaa", sum := "8ea3cf71202e5d61adba35c60b6e8dd237381216a97b2046a1cdef9db5e5b5db", func := "hauberk/hauberklaw06.PacketTurned", spec := "packetTurned", unfollowed := true, recurses := true, apart := false }
def PacketTurnedSaid : Prop := packetTurnedRow.holds Try.pinned (OpenSpec.ofChange packetTurnedSpec)

/-- ITS FALSE NEIGHBOUR: 'it returns false'. Refute it at one input. -/
def packetTurnedWrong : ChangeSpec := { name := "packetTurned", fn := fun _ => fun
  | [d1, d2] => { results := [.lit (.bool false)], args := [d1, d2] }
  | _ => none }
def PacketTurnedWrongFalsely : Prop := packetTurnedRow.holds Try.pinned (OpenSpec.ofChange packetTurnedWrong)

/- THE SECOND FORM. 'bulk': how many values and letters a reading holds, each counted each time it is reached (what is shared counts as often as it is met; a slice's spare places count too). A statement '..UptoSaid' is the law's where the arguments, and the package variables that the reading takes, are together of bulk at most 1048576: NARROWER than '..Said'. Prove '..Said' where nothing that the law and all that it calls make is longer than what came in: it says more and counts as full. Else prove '..UptoSaid'. A law counts once. -/
mutual
def uptoBulk {H : Type} : DataW H → Nat
  | .lit (.string bytes) => bytes.length + 1
  | .lit _ => 1
  | .nil => 1
  | .ptr d => uptoBulk d + 1
  | .slice elems spare => uptoBulkAll elems + uptoBulkAll spare + 1
  | .agg parts => uptoBulkAll parts + 1
  | .iface _ d => uptoBulk d + 1
  | .map entries => uptoBulkEntries entries + 1
  | .held _ => 1
def uptoBulkAll {H : Type} : List (DataW H) → Nat
  | [] => 0
  | d :: r => uptoBulk d + uptoBulkAll r
def uptoBulkEntries {H : Type} : List (Lit × DataW H) → Nat
  | [] => 0
  | x :: r => uptoBulkEntry x + uptoBulkEntries r
def uptoBulkEntry {H : Type} : Lit × DataW H → Nat
  | (.string bytes, d) => bytes.length + uptoBulk d + 1
  | (_, d) => uptoBulk d + 1
 end
def uptoSmall : (H : Type) → List (DataW H) → Bool := fun _ ds => decide (uptoBulkAll ds ≤ 1048576)
def OpenSpec.upto (s : _root_.Go.ChangeSpec) : _root_.Go.OpenSpec := { _root_.Go.OpenSpec.ofChange s with cond := some uptoSmall }

/-- 'hauberklaw05.ParcelPacks', WHERE WHAT IT READS IS OF BULK AT MOST 1048576: true; the input reads as it did. -/
def parcelPacksUptoRow : OpenClaim := { program := "ytajhpnfpjickbaa", sum := "8ea3cf71202e5d61adba35c60b6e8dd237381216a97b2046a1cdef9db5e5b5db", func := "hauberk/hauberklaw05.ParcelPacks", spec := "parcelPacks", unfollowed := true, recurses := true, apart := false, narrowed := true }
def ParcelPacksUptoSaid : Prop := parcelPacksUptoRow.holds Try.pinned (OpenSpec.upto parcelPacksSpec)

/-- 'hauberklaw05.ParcelUnpacks', WHERE WHAT IT READS IS OF BULK AT MOST 1048576: true; the input reads as it did. -/
def parcelUnpacksUptoRow : OpenClaim := { program := "ytajhpnfpjickbaa", sum := "8ea3cf71202e5d61adba35c60b6e8dd237381216a97b2046a1cdef9db5e5b5db", func := "hauberk/hauberklaw05.ParcelUnpacks", spec := "parcelUnpacks", unfollowed := true, recurses := true, apart := false, narrowed := true }
def ParcelUnpacksUptoSaid : Prop := parcelUnpacksUptoRow.holds Try.pinned (OpenSpec.upto parcelUnpacksSpec)

/-- 'hauberklaw05.ParcelCharts', WHERE WHAT IT READS IS OF BULK AT MOST 1048576: true; the input reads as it did. -/
def parcelChartsUptoRow : OpenClaim := { program := "ytajhpnfpjickbaa", sum := "8ea3cf71202e5d61adba35c60b6e8dd237381216a97b2046a1cdef9db5e5b5db", func := "hauberk/hauberklaw05.ParcelCharts", spec := "parcelCharts", unfollowed := true, recurses := true, apart := false, narrowed := true }
def ParcelChartsUptoSaid : Prop := parcelChartsUptoRow.holds Try.pinned (OpenSpec.upto parcelChartsSpec)

/-- 'hauberklaw05.ParcelOlds', WHERE WHAT IT READS IS OF BULK AT MOST 1048576: true; the input reads as it did. -/
def parcelOldsUptoRow : OpenClaim := { program := "ytajhpnfpjickbaa", sum := "8ea3cf71202e5d61adba35c60b6e8dd237381216a97b2046a1cdef9db5e5b5db", func := "hauberk/hauberklaw05.ParcelOlds", spec := "parcelOlds", unfollowed := true, recurses := true, apart := false, narrowed := true }
def ParcelOldsUptoSaid : Prop := parcelOldsUptoRow.holds Try.pinned (OpenSpec.upto parcelOldsSpec)

/-- 'hauberklaw05.ParcelAgain', WHERE WHAT IT READS IS OF BULK AT MOST 1048576: true; the input reads as it did. -/
def parcelAgainUptoRow : OpenClaim := { program := "ytajhpnfpjickbaa", sum := "8ea3cf71202e5d61adba35c60b6e8dd237381216a97b2046a1cdef9db5e5b5db", func := "hauberk/hauberklaw05.ParcelAgain", spec := "parcelAgain", unfollowed := true, recurses := true, apart := false, narrowed := true }
def ParcelAgainUptoSaid : Prop := parcelAgainUptoRow.holds Try.pinned (OpenSpec.upto parcelAgainSpec)

/-- 'hauberklaw05.ParcelNames', WHERE WHAT IT READS IS OF BULK AT MOST 1048576: true; the input reads as it did. -/
def parcelNamesUptoRow : OpenClaim := { program := "ytajhpnfpjickbaa", sum := "8ea3cf71202e5d61adba35c60b6e8dd237381216a97b2046a1cdef9db5e5b5db", func := "hauberk/hauberklaw05.ParcelNames", spec := "parcelNames", unfollowed := true, recurses := true, apart := false, narrowed := true }
def ParcelNamesUptoSaid : Prop := parcelNamesUptoRow.holds Try.pinned (OpenSpec.upto parcelNamesSpec)

/-- 'hauberklaw06.PacketBack', WHERE WHAT IT READS IS OF BULK AT MOST 1048576: true; the input reads as it did. -/
def packetBackUptoRow : OpenClaim := { program := "ytajhpnfpjickbaa", sum := "8ea3cf71202e5d61adba35c60b6e8dd237381216a97b2046a1cdef9db5e5b5db", func := "hauberk/hauberklaw06.PacketBack", spec := "packetBack", unfollowed := true, recurses := true, apart := false, narrowed := true }
def PacketBackUptoSaid : Prop := packetBackUptoRow.holds Try.pinned (OpenSpec.upto packetBackSpec)

/-- 'hauberklaw06.PacketOnce', WHERE WHAT IT READS IS OF BULK AT MOST 1048576: true; the input reads as it did. -/
def packetOnceUptoRow : OpenClaim := { program := "ytajhpnfpjickbaa", sum := "8ea3cf71202e5d61adba35c60b6e8dd237381216a97b2046a1cdef9db5e5b5db", func := "hauberk/hauberklaw06.PacketOnce", spec := "packetOnce", unfollowed := true, recurses := true, apart := false, narrowed := true }
def PacketOnceUptoSaid : Prop := packetOnceUptoRow.holds Try.pinned (OpenSpec.upto packetOnceSpec)

/-- 'hauberklaw06.PacketTurned', WHERE WHAT IT READS IS OF BULK AT MOST 1048576: true; the input reads as it did. -/
def packetTurnedUptoRow : OpenClaim := { program := "ytajhpnfpjickbaa", sum := "8ea3cf71202e5d61adba35c60b6e8dd237381216a97b2046a1cdef9db5e5b5db", func := "hauberk/hauberklaw06.PacketTurned", spec := "packetTurned", unfollowed := true, recurses := true, apart := false, narrowed := true }
def PacketTurnedUptoSaid : Prop := packetTurnedUptoRow.holds Try.pinned (OpenSpec.upto packetTurnedSpec)

end Rows
end Go.Proofs.Ytajhpnfpjickbaa
