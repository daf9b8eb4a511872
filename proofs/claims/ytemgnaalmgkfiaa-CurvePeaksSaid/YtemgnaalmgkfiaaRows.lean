/-
  No cell of these rows narrows 'for every input' (looked for: loops, veiled, ifaces, maps, wideKeys, modest, calm, conditions, laid).
  DERIVED. THE GIVEN ROWS OF THIS SEAT. 3 by the template 'for every input the law returns true; each argument reads behind the call as it read before'; 0 by the template 'total and deterministic' (their statements: YtemgnaalmgkfiaaTotals.lean).
  GIVEN WITH THE SEED: the statements are not yours to turn. If you find one false, say at which input.
  Laid BY PROGRAM, IN A SANDBOX (cutbox-rows.mjs): the forced cells as the released guide's own fill.sh prints them over the translation b1bc518f8d6be201… (all of the seat's roots in one cut). By AI agents, Wed Nov 11 2026. No macro, syntax, notation, axiom, sorry.
-/
import Derived.Test.YtemgnaalmgkfiaaChecked
import GoSem.Claim
import GoSem.ClaimJoined
import GoSem.ClaimMapViews
import Derived.JoinedTies
import Derived.KernelRfl
namespace Go.Proofs.Ytemgnaalmgkfiaa
/- THE CELL 'sum', in the pinned program and in every row, IS THE sha256 OF THE DUMP (.gsa) THAT YtemgnaalmgkfiaaProg.lean LOADS. Nothing in Lean hashes anything: it is a label: what it is worth is what the hold of that sum in a sandbox is worth. -/
noncomputable def Try.pinned : Pinned := { name := "ytemgnaalmgkfiaa", sum := "b1bc518f8d6be2010ce8646553d7bb7a0fdcfd19e3fe8eb48965b18decb43f5d", checked := Try.checked }
namespace Rows
def none {H : Type} : Left H := { results := [], args := [] }

/-- 'weighbridgelaw29.CurveBreaks': WHATEVER THE INPUT: true; the input reads as it did. -/
def curveBreaksSpec : ChangeSpec := { name := "curveBreaks", fn := fun _ => fun
  | [d1, d2, d3] => { results := [.lit (.bool true)], args := [d1, d2, d3] }
  | _ => none }
def curveBreaksRow : OpenClaim := { program := "ytemgnaalmgkfiaa", sum := "b1bc518f8d6be2010ce8646553d7bb7a0fdcfd19e3fe8eb48965b18decb43f5d", func := "weighbridge/weighbridgelaw29.CurveBreaks", spec := "curveBreaks", inPlace := ["math/bits.Add64", "math/bits.Sub64"], unfollowed := true, recurses := true, named := ["math/bits.divideError", "math/bits.overflowError"], apart := false }
def CurveBreaksSaid : Prop := curveBreaksRow.holds Try.pinned (OpenSpec.ofChange curveBreaksSpec)

/-- ITS FALSE NEIGHBOUR: 'it returns false'. Refute it at one input. -/
def curveBreaksWrong : ChangeSpec := { name := "curveBreaks", fn := fun _ => fun
  | [d1, d2, d3] => { results := [.lit (.bool false)], args := [d1, d2, d3] }
  | _ => none }
def CurveBreaksWrongFalsely : Prop := curveBreaksRow.holds Try.pinned (OpenSpec.ofChange curveBreaksWrong)

/-- 'weighbridgelaw29.CurveLeast': WHATEVER THE INPUT: true; the input reads as it did. -/
def curveLeastSpec : ChangeSpec := { name := "curveLeast", fn := fun _ => fun
  | [d1, d2, d3] => { results := [.lit (.bool true)], args := [d1, d2, d3] }
  | _ => none }
def curveLeastRow : OpenClaim := { program := "ytemgnaalmgkfiaa", sum := "b1bc518f8d6be2010ce8646553d7bb7a0fdcfd19e3fe8eb48965b18decb43f5d", func := "weighbridge/weighbridgelaw29.CurveLeast", spec := "curveLeast", inPlace := ["math/bits.Add64", "math/bits.Sub64"], unfollowed := true, recurses := true, named := ["math/bits.divideError", "math/bits.overflowError"], apart := false }
def CurveLeastSaid : Prop := curveLeastRow.holds Try.pinned (OpenSpec.ofChange curveLeastSpec)

/-- ITS FALSE NEIGHBOUR: 'it returns false'. Refute it at one input. -/
def curveLeastWrong : ChangeSpec := { name := "curveLeast", fn := fun _ => fun
  | [d1, d2, d3] => { results := [.lit (.bool false)], args := [d1, d2, d3] }
  | _ => none }
def CurveLeastWrongFalsely : Prop := curveLeastRow.holds Try.pinned (OpenSpec.ofChange curveLeastWrong)

/-- 'weighbridgelaw29.CurvePeaks': WHATEVER THE INPUT: true; the input reads as it did. -/
def curvePeaksSpec : ChangeSpec := { name := "curvePeaks", fn := fun _ => fun
  | [d1, d2, d3] => { results := [.lit (.bool true)], args := [d1, d2, d3] }
  | _ => none }
def curvePeaksRow : OpenClaim := { program := "ytemgnaalmgkfiaa", sum := "b1bc518f8d6be2010ce8646553d7bb7a0fdcfd19e3fe8eb48965b18decb43f5d", func := "weighbridge/weighbridgelaw29.CurvePeaks", spec := "curvePeaks", inPlace := ["math/bits.Add64", "math/bits.Sub64"], unfollowed := true, recurses := true, named := ["math/bits.divideError", "math/bits.overflowError"], apart := false }
def CurvePeaksSaid : Prop := curvePeaksRow.holds Try.pinned (OpenSpec.ofChange curvePeaksSpec)

/-- ITS FALSE NEIGHBOUR: 'it returns false'. Refute it at one input. -/
def curvePeaksWrong : ChangeSpec := { name := "curvePeaks", fn := fun _ => fun
  | [d1, d2, d3] => { results := [.lit (.bool false)], args := [d1, d2, d3] }
  | _ => none }
def CurvePeaksWrongFalsely : Prop := curvePeaksRow.holds Try.pinned (OpenSpec.ofChange curvePeaksWrong)

/- THE SECOND FORM. 'bulk': how many values and letters a reading holds, each counted each time it is reached (what is shared counts as often as it is met; a slice's spare places count too). A statement '..UptoSaid' is the law's where the arguments, and the package variables that the reading takes, are together of bulk at most 1048576: NARROWER than '..Said'. Prove '..Said' where nothing that the law and all that it calls make is longer than what came in: it says more and counts as full. Else prove '..UptoSaid'. A law counts once. -/
mutual
def uptoBulk {H : Type} : DataW H → Nat
  | .lit (.string bytes) => bytes.length + 1
  | .lit _ => 1
  | .nil => 1
  | .ptr d => uptoBulk d + 1
  | .slice elems spare => uptoBulkAll elems + uptoBulkAll spare + 1
  | .agg parts => uptoBulkAll parts + 1
  | .iface _ d => uptoBulk d + 1
  | .map entries => uptoBulkEntries entries + 1
  | .held _ => 1
def uptoBulkAll {H : Type} : List (DataW H) → Nat
  | [] => 0
  | d :: r => uptoBulk d + uptoBulkAll r
def uptoBulkEntries {H : Type} : List (Lit × DataW H) → Nat
  | [] => 0
  | x :: r => uptoBulkEntry x + uptoBulkEntries r
def uptoBulkEntry {H : Type} : Lit × DataW H → Nat
  | (.string bytes, d) => bytes.length + uptoBulk d + 1
  | (_, d) => uptoBulk d + 1
 end
def uptoSmall : (H : Type) → List (DataW H) → Bool := fun _ ds => decide (uptoBulkAll ds ≤ 1048576)
def OpenSpec.upto (s : _root_.Go.ChangeSpec) : _root_.Go.OpenSpec := { _root_.Go.OpenSpec.ofChange s with cond := some uptoSmall }

/-- 'weighbridgelaw29.CurveBreaks', WHERE WHAT IT READS IS OF BULK AT MOST 1048576: true; the input reads as it did. -/
def curveBreaksUptoRow : OpenClaim := { program := "ytemgnaalmgkfiaa", sum := "b1bc518f8d6be2010ce8646553d7bb7a0fdcfd19e3fe8eb48965b18decb43f5d", func := "weighbridge/weighbridgelaw29.CurveBreaks", spec := "curveBreaks", inPlace := ["math/bits.Add64", "math/bits.Sub64"], unfollowed := true, recurses := true, named := ["math/bits.divideError", "math/bits.overflowError"], apart := false, narrowed := true }
def CurveBreaksUptoSaid : Prop := curveBreaksUptoRow.holds Try.pinned (OpenSpec.upto curveBreaksSpec)

/-- 'weighbridgelaw29.CurveLeast', WHERE WHAT IT READS IS OF BULK AT MOST 1048576: true; the input reads as it did. -/
def curveLeastUptoRow : OpenClaim := { program := "ytemgnaalmgkfiaa", sum := "b1bc518f8d6be2010ce8646553d7bb7a0fdcfd19e3fe8eb48965b18decb43f5d", func := "weighbridge/weighbridgelaw29.CurveLeast", spec := "curveLeast", inPlace := ["math/bits.Add64", "math/bits.Sub64"], unfollowed := true, recurses := true, named := ["math/bits.divideError", "math/bits.overflowError"], apart := false, narrowed := true }
def CurveLeastUptoSaid : Prop := curveLeastUptoRow.holds Try.pinned (OpenSpec.upto curveLeastSpec)

/-- 'weighbridgelaw29.CurvePeaks', WHERE WHAT IT READS IS OF BULK AT MOST 1048576: true; the input reads as it did. -/
def curvePeaksUptoRow : OpenClaim := { program := "ytemgnaalmgkfiaa", sum := "b1bc518f8d6be2010ce8646553d7bb7a0fdcfd19e3fe8eb48965b18decb43f5d", func := "weighbridge/weighbridgelaw29.CurvePeaks", spec := "curvePeaks", inPlace := ["math/bits.Add64", "math/bits.Sub64"], unfollowed := true, recurses := true, named := ["math/bits.divideError", "math/bits.overflowError"], apart := false, narrowed := true }
def CurvePeaksUptoSaid : Prop := curvePeaksUptoRow.holds Try.pinned (OpenSpec.upto curvePeaksSpec)

end Rows
end Go.Proofs.Ytemgnaalmgkfiaa
