/-
  No cell of these rows narrows 'for every input' (looked for: loops, veiled, ifaces, maps, wideKeys, modest, calm, conditions, laid).
  DERIVED. THE GIVEN ROWS OF THIS SEAT. 11 by the template 'for every input the law returns true; each argument reads behind the call as it read before'; 0 by the template 'total and deterministic' (their statements: YtjpaicdbnadoeaaTotals.lean).
  GIVEN WITH THE SEED: the statements are not yours to turn. If you find one false, say at which input.
  Laid BY PROGRAM, IN A SANDBOX (cutbox-rows.mjs): the forced cells as the released guide's own fill.sh prints them over the translation eae68e6487278227… (all of the seat's roots in one cut). By AI agents, Wed Nov 11 2026. No macro, syntax, notation, axiom, sorry.
-/
import Derived.Test.YtjpaicdbnadoeaaChecked
import GoSem.Claim
import GoSem.ClaimJoined
import GoSem.ClaimMapViews
import Derived.JoinedTies
import Derived.KernelRfl
namespace Go.Proofs.Ytjpaicdbnadoeaa
/- THE CELL 'sum', in the pinned program and in every row, IS THE sha256 OF THE DUMP (.gsa) THAT YtjpaicdbnadoeaaProg.lean LOADS. Nothing in Lean hashes anything: it is a label: what it is worth is what the hold of that sum in a sandbox is worth. -/
noncomputable def Try.pinned : Pinned := { name := "ytjpaicdbnadoeaa", sum := "eae68e6487278227521c0896450e38136c7df2263c18a546de5ec7a8e6180b3f", checked := Try.checked }
namespace Rows
def none {H : Type} : Left H := { results := [], args := [] }

/-- 'weighbridgelaw14.PacketParses': WHATEVER THE INPUT: true; the input reads as it did. -/
def packetParsesSpec : ChangeSpec := { name := "packetParses", fn := fun _ => fun
  | [d1, d2] => { results := [.lit (.bool true)], args := [d1, d2] }
  | _ => none }
def packetParsesRow : OpenClaim := { program := "ytjpaicdbnadoeaa", sum := "eae68e6487278227521c0896450e38136c7df2263c18a546de5ec7a8e6180b3f", func := "weighbridge/weighbridgelaw14.PacketParses", spec := "packetParses", unfollowed := true, recurses := true, apart := false }
def PacketParsesSaid : Prop := packetParsesRow.holds Try.pinned (OpenSpec.ofChange packetParsesSpec)

/-- ITS FALSE NEIGHBOUR: 'it returns false'. Refute it at one input. -/
def packetParsesWrong : ChangeSpec := { name := "packetParses", fn := fun _ => fun
  | [d1, d2] => { results := [.lit (.bool false)], args := [d1, d2] }
  | _ => none }
def PacketParsesWrongFalsely : Prop := packetParsesRow.holds Try.pinned (OpenSpec.ofChange packetParsesWrong)

/-- 'weighbridgelaw14.PacketOne': WHATEVER THE INPUT: true; the input reads as it did. -/
def packetOneSpec : ChangeSpec := { name := "packetOne", fn := fun _ => fun
  | [d] => { results := [.lit (.bool true)], args := [d] }
  | _ => none }
def packetOneRow : OpenClaim := { program := "ytjpaicdbnadoeaa", sum := "eae68e6487278227521c0896450e38136c7df2263c18a546de5ec7a8e6180b3f", func := "weighbridge/weighbridgelaw14.PacketOne", spec := "packetOne", unfollowed := true, recurses := true, apart := false }
def PacketOneSaid : Prop := packetOneRow.holds Try.pinned (OpenSpec.ofChange packetOneSpec)

/-- ITS FALSE NEIGHBOUR: 'it returns false'. Refute it at one input. -/
def packetOneWrong : ChangeSpec := { name := "packetOne", fn := fun _ => fun
  | [d] => { results := [.lit (.bool false)], args := [d] }
  | _ => none }
def PacketOneWrongFalsely : Prop := packetOneRow.holds Try.pinned (OpenSpec.ofChange packetOneWrong)

/-- 'weighbridgelaw14.PacketEnds': WHATEVER THE INPUT: true; the input reads as it did. -/
def packetEndsSpec : ChangeSpec := { name := "packetEnds", fn := fun _ => fun
  | [d1, d2, d3] => { results := [.lit (.bool true)], args := [d1, d2, d3] }
  | _ => none }
def packetEndsRow : OpenClaim := { program := "ytjpaicdbnadoeaa", sum := "eae68e6487278227521c0896450e38136c7df2263c18a546de5ec7a8e6180b3f", func := "weighbridge/weighbridgelaw14.PacketEnds", spec := "packetEnds", unfollowed := true, recurses := true, apart := false }
def PacketEndsSaid : Prop := packetEndsRow.holds Try.pinned (OpenSpec.ofChange packetEndsSpec)

/-- ITS FALSE NEIGHBOUR: 'it returns false'. Refute it at one input. -/
def packetEndsWrong : ChangeSpec := { name := "packetEnds", fn := fun _ => fun
  | [d1, d2, d3] => { results := [.lit (.bool false)], args := [d1, d2, d3] }
  | _ => none }
def PacketEndsWrongFalsely : Prop := packetEndsRow.holds Try.pinned (OpenSpec.ofChange packetEndsWrong)

/-- 'weighbridgetop.WholeCarried': WHATEVER THE INPUT: true; the input reads as it did. -/
def wholeCarriedSpec : ChangeSpec := { name := "wholeCarried", fn := fun _ => fun
  | [d1, d2] => { results := [.lit (.bool true)], args := [d1, d2] }
  | _ => none }
def wholeCarriedRow : OpenClaim := { program := "ytjpaicdbnadoeaa", sum := "eae68e6487278227521c0896450e38136c7df2263c18a546de5ec7a8e6180b3f", func := "weighbridge/weighbridgetop.WholeCarried", spec := "wholeCarried", unfollowed := true, recurses := true, apart := false }
def WholeCarriedSaid : Prop := wholeCarriedRow.holds Try.pinned (OpenSpec.ofChange wholeCarriedSpec)

/-- ITS FALSE NEIGHBOUR: 'it returns false'. Refute it at one input. -/
def wholeCarriedWrong : ChangeSpec := { name := "wholeCarried", fn := fun _ => fun
  | [d1, d2] => { results := [.lit (.bool false)], args := [d1, d2] }
  | _ => none }
def WholeCarriedWrongFalsely : Prop := wholeCarriedRow.holds Try.pinned (OpenSpec.ofChange wholeCarriedWrong)

/-- 'weighbridgelaw15.BuildMakes': WHATEVER THE INPUT: true; the input reads as it did. -/
def buildMakesSpec : ChangeSpec := { name := "buildMakes", fn := fun _ => fun
  | [d] => { results := [.lit (.bool true)], args := [d] }
  | _ => none }
def buildMakesRow : OpenClaim := { program := "ytjpaicdbnadoeaa", sum := "eae68e6487278227521c0896450e38136c7df2263c18a546de5ec7a8e6180b3f", func := "weighbridge/weighbridgelaw15.BuildMakes", spec := "buildMakes", unfollowed := true, recurses := true, apart := false }
def BuildMakesSaid : Prop := buildMakesRow.holds Try.pinned (OpenSpec.ofChange buildMakesSpec)

/-- ITS FALSE NEIGHBOUR: 'it returns false'. Refute it at one input. -/
def buildMakesWrong : ChangeSpec := { name := "buildMakes", fn := fun _ => fun
  | [d] => { results := [.lit (.bool false)], args := [d] }
  | _ => none }
def BuildMakesWrongFalsely : Prop := buildMakesRow.holds Try.pinned (OpenSpec.ofChange buildMakesWrong)

/-- 'weighbridgelaw15.BuildBack': WHATEVER THE INPUT: true; the input reads as it did. -/
def buildBackSpec : ChangeSpec := { name := "buildBack", fn := fun _ => fun
  | [d] => { results := [.lit (.bool true)], args := [d] }
  | _ => none }
def buildBackRow : OpenClaim := { program := "ytjpaicdbnadoeaa", sum := "eae68e6487278227521c0896450e38136c7df2263c18a546de5ec7a8e6180b3f", func := "weighbridge/weighbridgelaw15.BuildBack", spec := "buildBack", unfollowed := true, recurses := true, apart := false }
def BuildBackSaid : Prop := buildBackRow.holds Try.pinned (OpenSpec.ofChange buildBackSpec)

/-- ITS FALSE NEIGHBOUR: 'it returns false'. Refute it at one input. -/
def buildBackWrong : ChangeSpec := { name := "buildBack", fn := fun _ => fun
  | [d] => { results := [.lit (.bool false)], args := [d] }
  | _ => none }
def BuildBackWrongFalsely : Prop := buildBackRow.holds Try.pinned (OpenSpec.ofChange buildBackWrong)

/-- 'weighbridgelaw15.BuildPorts': WHATEVER THE INPUT: true; the input reads as it did. -/
def buildPortsSpec : ChangeSpec := { name := "buildPorts", fn := fun _ => fun
  | [d1, d2, d3] => { results := [.lit (.bool true)], args := [d1, d2, d3] }
  | _ => none }
def buildPortsRow : OpenClaim := { program := "ytjpaicdbnadoeaa", sum := "eae68e6487278227521c0896450e38136c7df2263c18a546de5ec7a8e6180b3f", func := "weighbridge/weighbridgelaw15.BuildPorts", spec := "buildPorts", unfollowed := true, recurses := true, apart := false }
def BuildPortsSaid : Prop := buildPortsRow.holds Try.pinned (OpenSpec.ofChange buildPortsSpec)

/-- ITS FALSE NEIGHBOUR: 'it returns false'. Refute it at one input. -/
def buildPortsWrong : ChangeSpec := { name := "buildPorts", fn := fun _ => fun
  | [d1, d2, d3] => { results := [.lit (.bool false)], args := [d1, d2, d3] }
  | _ => none }
def BuildPortsWrongFalsely : Prop := buildPortsRow.holds Try.pinned (OpenSpec.ofChange buildPortsWrong)

/-- 'weighbridgelaw16.RemarkKeeps': WHATEVER THE INPUT: true; the input reads as it did. -/
def remarkKeepsSpec : ChangeSpec := { name := "remarkKeeps", fn := fun _ => fun
  | [d1, d2] => { results := [.lit (.bool true)], args := [d1, d2] }
  | _ => none }
def remarkKeepsRow : OpenClaim := { program := "ytjpaicdbnadoeaa", sum := "eae68e6487278227521c0896450e38136c7df2263c18a546de5ec7a8e6180b3f", func := "weighbridge/weighbridgelaw16.RemarkKeeps", spec := "remarkKeeps", unfollowed := true, recurses := true, apart := false }
def RemarkKeepsSaid : Prop := remarkKeepsRow.holds Try.pinned (OpenSpec.ofChange remarkKeepsSpec)

/-- ITS FALSE NEIGHBOUR: 'it returns false'. Refute it at one input. -/
def remarkKeepsWrong : ChangeSpec := { name := "remarkKeeps", fn := fun _ => fun
  | [d1, d2] => { results := [.lit (.bool false)], args := [d1, d2] }
  | _ => none }
def RemarkKeepsWrongFalsely : Prop := remarkKeepsRow.holds Try.pinned (OpenSpec.ofChange remarkKeepsWrong)

/-- 'weighbridgelaw16.RemarkFresh': WHATEVER THE INPUT: true; the input reads as it did. -/
def remarkFreshSpec : ChangeSpec := { name := "remarkFresh", fn := fun _ => fun
  | [d1, d2] => { results := [.lit (.bool true)], args := [d1, d2] }
  | _ => none }
def remarkFreshRow : OpenClaim := { program := "ytjpaicdbnadoeaa", sum := "eae68e6487278227521c0896450e38136c7df2263c18a546de5ec7a8e6180b3f", func := "weighbridge/weighbridgelaw16.RemarkFresh", spec := "remarkFresh", unfollowed := true, recurses := true, apart := false }
def RemarkFreshSaid : Prop := remarkFreshRow.holds Try.pinned (OpenSpec.ofChange remarkFreshSpec)

/-- ITS FALSE NEIGHBOUR: 'it returns false'. Refute it at one input. -/
def remarkFreshWrong : ChangeSpec := { name := "remarkFresh", fn := fun _ => fun
  | [d1, d2] => { results := [.lit (.bool false)], args := [d1, d2] }
  | _ => none }
def RemarkFreshWrongFalsely : Prop := remarkFreshRow.holds Try.pinned (OpenSpec.ofChange remarkFreshWrong)

/-- 'weighbridgelaw16.RemarkTwice': WHATEVER THE INPUT: true; the input reads as it did. -/
def remarkTwiceSpec : ChangeSpec := { name := "remarkTwice", fn := fun _ => fun
  | [d1, d2] => { results := [.lit (.bool true)], args := [d1, d2] }
  | _ => none }
def remarkTwiceRow : OpenClaim := { program := "ytjpaicdbnadoeaa", sum := "eae68e6487278227521c0896450e38136c7df2263c18a546de5ec7a8e6180b3f", func := "weighbridge/weighbridgelaw16.RemarkTwice", spec := "remarkTwice", unfollowed := true, recurses := true, apart := false }
def RemarkTwiceSaid : Prop := remarkTwiceRow.holds Try.pinned (OpenSpec.ofChange remarkTwiceSpec)

/-- ITS FALSE NEIGHBOUR: 'it returns false'. Refute it at one input. -/
def remarkTwiceWrong : ChangeSpec := { name := "remarkTwice", fn := fun _ => fun
  | [d1, d2] => { results := [.lit (.bool false)], args := [d1, d2] }
  | _ => none }
def RemarkTwiceWrongFalsely : Prop := remarkTwiceRow.holds Try.pinned (OpenSpec.ofChange remarkTwiceWrong)

/-- 'weighbridgetop.WholeMarked': WHATEVER THE INPUT: true; the input reads as it did. -/
def wholeMarkedSpec : ChangeSpec := { name := "wholeMarked", fn := fun _ => fun
  | [d1, d2] => { results := [.lit (.bool true)], args := [d1, d2] }
  | _ => none }
def wholeMarkedRow : OpenClaim := { program := "ytjpaicdbnadoeaa", sum := "eae68e6487278227521c0896450e38136c7df2263c18a546de5ec7a8e6180b3f", func := "weighbridge/weighbridgetop.WholeMarked", spec := "wholeMarked", unfollowed := true, recurses := true, apart := false }
def WholeMarkedSaid : Prop := wholeMarkedRow.holds Try.pinned (OpenSpec.ofChange wholeMarkedSpec)

/-- ITS FALSE NEIGHBOUR: 'it returns false'. Refute it at one input. -/
def wholeMarkedWrong : ChangeSpec := { name := "wholeMarked", fn := fun _ => fun
  | [d1, d2] => { results := [.lit (.bool false)], args := [d1, d2] }
  | _ => none }
def WholeMarkedWrongFalsely : Prop := wholeMarkedRow.holds Try.pinned (OpenSpec.ofChange wholeMarkedWrong)

/- THE SECOND FORM. 'bulk': how many values and letters a reading holds, each counted each time it is reached (what is shared counts as often as it is met; a slice's spare places count too). A statement '..UptoSaid' is the law's where the arguments, and the package variables that the reading takes, are together of bulk at most 1048576: NARROWER than '..Said'. Prove '..Said' where nothing that the law and all that it calls make is longer than what came in: it says more and counts as full. Else prove '..UptoSaid'. A law counts once. -/
mutual
def uptoBulk {H : Type} : DataW H → Nat
  | .lit (.string bytes) => bytes.length + 1
  | .lit _ => 1
  | .nil => 1
  | .ptr d => uptoBulk d + 1
  | .slice elems spare => uptoBulkAll elems + uptoBulkAll spare + 1
  | .agg parts => uptoBulkAll parts + 1
  | .iface _ d => uptoBulk d + 1
  | .map entries => uptoBulkEntries entries + 1
  | .held _ => 1
def uptoBulkAll {H : Type} : List (DataW H) → Nat
  | [] => 0
  | d :: r => uptoBulk d + uptoBulkAll r
def uptoBulkEntries {H : Type} : List (Lit × DataW H) → Nat
  | [] => 0
  | x :: r => uptoBulkEntry x + uptoBulkEntries r
def uptoBulkEntry {H : Type} : Lit × DataW H → Nat
  | (.string bytes, d) => bytes.length + uptoBulk d + 1
  | (_, d) => uptoBulk d + 1
 end
def uptoSmall : (H : Type) → List (DataW H) → Bool := fun _ ds => decide (uptoBulkAll ds ≤ 1048576)
def OpenSpec.upto (s : _root_.Go.ChangeSpec) : _root_.Go.OpenSpec := { _root_.Go.OpenSpec.ofChange s with cond := some uptoSmall }

/-- 'weighbridgelaw14.PacketParses', WHERE WHAT IT READS IS OF BULK AT MOST 1048576: true; the input reads as it did. -/
def packetParsesUptoRow : OpenClaim := { program := "ytjpaicdbnadoeaa", sum := "eae68e6487278227521c0896450e38136c7df2263c18a546de5ec7a8e6180b3f", func := "weighbridge/weighbridgelaw14.PacketParses", spec := "packetParses", unfollowed := true, recurses := true, apart := false, narrowed := true }
def PacketParsesUptoSaid : Prop := packetParsesUptoRow.holds Try.pinned (OpenSpec.upto packetParsesSpec)

/-- 'weighbridgelaw14.PacketOne', WHERE WHAT IT READS IS OF BULK AT MOST 1048576: true; the input reads as it did. -/
def packetOneUptoRow : OpenClaim := { program := "ytjpaicdbnadoeaa", sum := "eae68e6487278227521c0896450e38136c7df2263c18a546de5ec7a8e6180b3f", func := "weighbridge/weighbridgelaw14.PacketOne", spec := "packetOne", unfollowed := true, recurses := true, apart := false, narrowed := true }
def PacketOneUptoSaid : Prop := packetOneUptoRow.holds Try.pinned (OpenSpec.upto packetOneSpec)

/-- 'weighbridgelaw14.PacketEnds', WHERE WHAT IT READS IS OF BULK AT MOST 1048576: true; the input reads as it did. -/
def packetEndsUptoRow : OpenClaim := { program := "ytjpaicdbnadoeaa", sum := "eae68e6487278227521c0896450e38136c7df2263c18a546de5ec7a8e6180b3f", func := "weighbridge/weighbridgelaw14.PacketEnds", spec := "packetEnds", unfollowed := true, recurses := true, apart := false, narrowed := true }
def PacketEndsUptoSaid : Prop := packetEndsUptoRow.holds Try.pinned (OpenSpec.upto packetEndsSpec)

/-- 'weighbridgetop.WholeCarried', WHERE WHAT IT READS IS OF BULK AT MOST 1048576: true; the input reads as it did. -/
def wholeCarriedUptoRow : OpenClaim := { program := "ytjpaicdbnadoeaa", sum := "eae68e6487278227521c0896450e38136c7df2263c18a546de5ec7a8e6180b3f", func := "weighbridge/weighbridgetop.WholeCarried", spec := "wholeCarried", unfollowed := true, recurses := true, apart := false, narrowed := true }
def WholeCarriedUptoSaid : Prop := wholeCarriedUptoRow.holds Try.pinned (OpenSpec.upto wholeCarriedSpec)

/-- 'weighbridgelaw15.BuildMakes', WHERE WHAT IT READS IS OF BULK AT MOST 1048576: true; the input reads as it did. -/
def buildMakesUptoRow : OpenClaim := { program := "ytjpaicdbnadoeaa", sum := "eae68e6487278227521c0896450e38136c7df2263c18a546de5ec7a8e6180b3f", func := "weighbridge/weighbridgelaw15.BuildMakes", spec := "buildMakes", unfollowed := true, recurses := true, apart := false, narrowed := true }
def BuildMakesUptoSaid : Prop := buildMakesUptoRow.holds Try.pinned (OpenSpec.upto buildMakesSpec)

/-- 'weighbridgelaw15.BuildBack', WHERE WHAT IT READS IS OF BULK AT MOST 1048576: true; the input reads as it did. -/
def buildBackUptoRow : OpenClaim := { program := "ytjpaicdbnadoeaa", sum := "eae68e6487278227521c0896450e38136c7df2263c18a546de5ec7a8e6180b3f", func := "weighbridge/weighbridgelaw15.BuildBack", spec := "buildBack", unfollowed := true, recurses := true, apart := false, narrowed := true }
def BuildBackUptoSaid : Prop := buildBackUptoRow.holds Try.pinned (OpenSpec.upto buildBackSpec)

/-- 'weighbridgelaw15.BuildPorts', WHERE WHAT IT READS IS OF BULK AT MOST 1048576: true; the input reads as it did. -/
def buildPortsUptoRow : OpenClaim := { program := "ytjpaicdbnadoeaa", sum := "eae68e6487278227521c0896450e38136c7df2263c18a546de5ec7a8e6180b3f", func := "weighbridge/weighbridgelaw15.BuildPorts", spec := "buildPorts", unfollowed := true, recurses := true, apart := false, narrowed := true }
def BuildPortsUptoSaid : Prop := buildPortsUptoRow.holds Try.pinned (OpenSpec.upto buildPortsSpec)

/-- 'weighbridgelaw16.RemarkKeeps', WHERE WHAT IT READS IS OF BULK AT MOST 1048576: true; the input reads as it did. -/
def remarkKeepsUptoRow : OpenClaim := { program := "ytjpaicdbnadoeaa", sum := "eae68e6487278227521c0896450e38136c7df2263c18a546de5ec7a8e6180b3f", func := "weighbridge/weighbridgelaw16.RemarkKeeps", spec := "remarkKeeps", unfollowed := true, recurses := true, apart := false, narrowed := true }
def RemarkKeepsUptoSaid : Prop := remarkKeepsUptoRow.holds Try.pinned (OpenSpec.upto remarkKeepsSpec)

/-- 'weighbridgelaw16.RemarkFresh', WHERE WHAT IT READS IS OF BULK AT MOST 1048576: true; the input reads as it did. -/
def remarkFreshUptoRow : OpenClaim := { program := "ytjpaicdbnadoeaa", sum := "eae68e6487278227521c0896450e38136c7df2263c18a546de5ec7a8e6180b3f", func := "weighbridge/weighbridgelaw16.RemarkFresh", spec := "remarkFresh", unfollowed := true, recurses := true, apart := false, narrowed := true }
def RemarkFreshUptoSaid : Prop := remarkFreshUptoRow.holds Try.pinned (OpenSpec.upto remarkFreshSpec)

/-- 'weighbridgelaw16.RemarkTwice', WHERE WHAT IT READS IS OF BULK AT MOST 1048576: true; the input reads as it did. -/
def remarkTwiceUptoRow : OpenClaim := { program := "ytjpaicdbnadoeaa", sum := "eae68e6487278227521c0896450e38136c7df2263c18a546de5ec7a8e6180b3f", func := "weighbridge/weighbridgelaw16.RemarkTwice", spec := "remarkTwice", unfollowed := true, recurses := true, apart := false, narrowed := true }
def RemarkTwiceUptoSaid : Prop := remarkTwiceUptoRow.holds Try.pinned (OpenSpec.upto remarkTwiceSpec)

/-- 'weighbridgetop.WholeMarked', WHERE WHAT IT READS IS OF BULK AT MOST 1048576: true; the input reads as it did. -/
def wholeMarkedUptoRow : OpenClaim := { program := "ytjpaicdbnadoeaa", sum := "eae68e6487278227521c0896450e38136c7df2263c18a546de5ec7a8e6180b3f", func := "weighbridge/weighbridgetop.WholeMarked", spec := "wholeMarked", unfollowed := true, recurses := true, apart := false, narrowed := true }
def WholeMarkedUptoSaid : Prop := wholeMarkedUptoRow.holds Try.pinned (OpenSpec.upto wholeMarkedSpec)

end Rows
end Go.Proofs.Ytjpaicdbnadoeaa
