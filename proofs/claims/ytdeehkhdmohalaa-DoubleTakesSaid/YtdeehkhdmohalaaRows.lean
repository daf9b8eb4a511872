/-
  No cell of these rows narrows 'for every input' (looked for: loops, veiled, ifaces, maps, wideKeys, modest, calm, conditions, laid).
  DERIVED. THE GIVEN ROWS OF THIS SEAT. 3 by the template 'for every input the law returns true; each argument reads behind the call as it read before'; 0 by the template 'total and deterministic' (their statements: YtdeehkhdmohalaaTotals.lean).
  GIVEN WITH THE SEED: the statements are not yours to turn. If you find one false, say at which input.
  Laid BY PROGRAM, IN A SANDBOX (cutbox-rows.mjs): the forced cells as the released guide's own fill.sh prints them over the translation 4894bf9c4787ce9d… (all of the seat's roots in one cut). By AI agents, Wed Nov 11 2026. No macro, syntax, notation, axiom, sorry.
-/
import Derived.Test.YtdeehkhdmohalaaChecked
import GoSem.Claim
import GoSem.ClaimJoined
import GoSem.ClaimMapViews
import Derived.JoinedTies
import Derived.KernelRfl
namespace Go.Proofs.Ytdeehkhdmohalaa
/- THE CELL 'sum', in the pinned program and in every row, IS THE sha256 OF THE DUMP (.gsa) THAT YtdeehkhdmohalaaProg.lean LOADS. Nothing in Lean hashes anything: it is a label: what it is worth is what the hold of that sum in a sandbox is worth. -/
noncomputable def Try.pinned : Pinned := { name := "ytdeehkhdmohalaa", sum := "4894bf9c4787ce9d2cc6c7034cefd0daeaada90f11494651fcba038cb491331a", checked := Try.checked }
namespace Rows
def none {H : Type} : Left H := { results := [], args := [] }

/-- 'weighbridgelaw27.DoubleSteps': WHATEVER THE INPUT: true; the input reads as it did. -/
def doubleStepsSpec : ChangeSpec := { name := "doubleSteps", fn := fun _ => fun
  | [d1, d2, d3] => { results := [.lit (.bool true)], args := [d1, d2, d3] }
  | _ => none }
def doubleStepsRow : OpenClaim := { program := "ytdeehkhdmohalaa", sum := "4894bf9c4787ce9d2cc6c7034cefd0daeaada90f11494651fcba038cb491331a", func := "weighbridge/weighbridgelaw27.DoubleSteps", spec := "doubleSteps", inPlace := ["math/bits.Add64", "math/bits.Sub64"], unfollowed := true, recurses := true, apart := false }
def DoubleStepsSaid : Prop := doubleStepsRow.holds Try.pinned (OpenSpec.ofChange doubleStepsSpec)

/-- ITS FALSE NEIGHBOUR: 'it returns false'. Refute it at one input. -/
def doubleStepsWrong : ChangeSpec := { name := "doubleSteps", fn := fun _ => fun
  | [d1, d2, d3] => { results := [.lit (.bool false)], args := [d1, d2, d3] }
  | _ => none }
def DoubleStepsWrongFalsely : Prop := doubleStepsRow.holds Try.pinned (OpenSpec.ofChange doubleStepsWrong)

/-- 'weighbridgelaw27.DoubleRuns': WHATEVER THE INPUT: true; the input reads as it did. -/
def doubleRunsSpec : ChangeSpec := { name := "doubleRuns", fn := fun _ => fun
  | [d1, d2] => { results := [.lit (.bool true)], args := [d1, d2] }
  | _ => none }
def doubleRunsRow : OpenClaim := { program := "ytdeehkhdmohalaa", sum := "4894bf9c4787ce9d2cc6c7034cefd0daeaada90f11494651fcba038cb491331a", func := "weighbridge/weighbridgelaw27.DoubleRuns", spec := "doubleRuns", inPlace := ["math/bits.Add64", "math/bits.Sub64"], unfollowed := true, recurses := true, apart := false }
def DoubleRunsSaid : Prop := doubleRunsRow.holds Try.pinned (OpenSpec.ofChange doubleRunsSpec)

/-- ITS FALSE NEIGHBOUR: 'it returns false'. Refute it at one input. -/
def doubleRunsWrong : ChangeSpec := { name := "doubleRuns", fn := fun _ => fun
  | [d1, d2] => { results := [.lit (.bool false)], args := [d1, d2] }
  | _ => none }
def DoubleRunsWrongFalsely : Prop := doubleRunsRow.holds Try.pinned (OpenSpec.ofChange doubleRunsWrong)

/-- 'weighbridgelaw27.DoubleTakes': WHATEVER THE INPUT: true; the input reads as it did. -/
def doubleTakesSpec : ChangeSpec := { name := "doubleTakes", fn := fun _ => fun
  | [d1, d2] => { results := [.lit (.bool true)], args := [d1, d2] }
  | _ => none }
def doubleTakesRow : OpenClaim := { program := "ytdeehkhdmohalaa", sum := "4894bf9c4787ce9d2cc6c7034cefd0daeaada90f11494651fcba038cb491331a", func := "weighbridge/weighbridgelaw27.DoubleTakes", spec := "doubleTakes", inPlace := ["math/bits.Add64", "math/bits.Sub64"], unfollowed := true, recurses := true, apart := false }
def DoubleTakesSaid : Prop := doubleTakesRow.holds Try.pinned (OpenSpec.ofChange doubleTakesSpec)

/-- ITS FALSE NEIGHBOUR: 'it returns false'. Refute it at one input. -/
def doubleTakesWrong : ChangeSpec := { name := "doubleTakes", fn := fun _ => fun
  | [d1, d2] => { results := [.lit (.bool false)], args := [d1, d2] }
  | _ => none }
def DoubleTakesWrongFalsely : Prop := doubleTakesRow.holds Try.pinned (OpenSpec.ofChange doubleTakesWrong)

/- THE SECOND FORM. 'bulk': how many values and letters a reading holds, each counted each time it is reached (what is shared counts as often as it is met; a slice's spare places count too). A statement '..UptoSaid' is the law's where the arguments, and the package variables that the reading takes, are together of bulk at most 1048576: NARROWER than '..Said'. Prove '..Said' where nothing that the law and all that it calls make is longer than what came in: it says more and counts as full. Else prove '..UptoSaid'. A law counts once. -/
mutual
def uptoBulk {H : Type} : DataW H → Nat
  | .lit (.string bytes) => bytes.length + 1
  | .lit _ => 1
  | .nil => 1
  | .ptr d => uptoBulk d + 1
  | .slice elems spare => uptoBulkAll elems + uptoBulkAll spare + 1
  | .agg parts => uptoBulkAll parts + 1
  | .iface _ d => uptoBulk d + 1
  | .map entries => uptoBulkEntries entries + 1
  | .held _ => 1
def uptoBulkAll {H : Type} : List (DataW H) → Nat
  | [] => 0
  | d :: r => uptoBulk d + uptoBulkAll r
def uptoBulkEntries {H : Type} : List (Lit × DataW H) → Nat
  | [] => 0
  | x :: r => uptoBulkEntry x + uptoBulkEntries r
def uptoBulkEntry {H : Type} : Lit × DataW H → Nat
  | (.string bytes, d) => bytes.length + uptoBulk d + 1
  | (_, d) => uptoBulk d + 1
 end
def uptoSmall : (H : Type) → List (DataW H) → Bool := fun _ ds => decide (uptoBulkAll ds ≤ 1048576)
def OpenSpec.upto (s : _root_.Go.ChangeSpec) : _root_.Go.OpenSpec := { _root_.Go.OpenSpec.ofChange s with cond := some uptoSmall }

/-- 'weighbridgelaw27.DoubleSteps', WHERE WHAT IT READS IS OF BULK AT MOST 1048576: true; the input reads as it did. -/
def doubleStepsUptoRow : OpenClaim := { program := "ytdeehkhdmohalaa", sum := "4894bf9c4787ce9d2cc6c7034cefd0daeaada90f11494651fcba038cb491331a", func := "weighbridge/weighbridgelaw27.DoubleSteps", spec := "doubleSteps", inPlace := ["math/bits.Add64", "math/bits.Sub64"], unfollowed := true, recurses := true, apart := false, narrowed := true }
def DoubleStepsUptoSaid : Prop := doubleStepsUptoRow.holds Try.pinned (OpenSpec.upto doubleStepsSpec)

/-- 'weighbridgelaw27.DoubleRuns', WHERE WHAT IT READS IS OF BULK AT MOST 1048576: true; the input reads as it did. -/
def doubleRunsUptoRow : OpenClaim := { program := "ytdeehkhdmohalaa", sum := "4894bf9c4787ce9d2cc6c7034cefd0daeaada90f11494651fcba038cb491331a", func := "weighbridge/weighbridgelaw27.DoubleRuns", spec := "doubleRuns", inPlace := ["math/bits.Add64", "math/bits.Sub64"], unfollowed := true, recurses := true, apart := false, narrowed := true }
def DoubleRunsUptoSaid : Prop := doubleRunsUptoRow.holds Try.pinned (OpenSpec.upto doubleRunsSpec)

/-- 'weighbridgelaw27.DoubleTakes', WHERE WHAT IT READS IS OF BULK AT MOST 1048576: true; the input reads as it did. -/
def doubleTakesUptoRow : OpenClaim := { program := "ytdeehkhdmohalaa", sum := "4894bf9c4787ce9d2cc6c7034cefd0daeaada90f11494651fcba038cb491331a", func := "weighbridge/weighbridgelaw27.DoubleTakes", spec := "doubleTakes", inPlace := ["math/bits.Add64", "math/bits.Sub64"], unfollowed := true, recurses := true, apart := false, narrowed := true }
def DoubleTakesUptoSaid : Prop := doubleTakesUptoRow.holds Try.pinned (OpenSpec.upto doubleTakesSpec)

end Rows
end Go.Proofs.Ytdeehkhdmohalaa
