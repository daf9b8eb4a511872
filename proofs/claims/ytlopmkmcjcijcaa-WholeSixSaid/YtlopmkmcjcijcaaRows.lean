/-
  No cell of these rows narrows 'for every input' (looked for: loops, veiled, ifaces, maps, wideKeys, modest, calm, conditions, laid).
  DERIVED. THE GIVEN ROWS OF THIS SEAT. 13 by the template 'for every input the law returns true; each argument reads behind the call as it read before'; 0 by the template 'total and deterministic' (their statements: YtlopmkmcjcijcaaTotals.lean).
  GIVEN WITH THE SEED: the statements are not yours to turn. If you find one false, say at which input.
  Laid BY PROGRAM, IN A SANDBOX (cutbox-rows.mjs): the forced cells as the released guide's own fill.sh prints them over the translation 14c28ef8181e5dcd… (all of the seat's roots in one cut). By AI agents, Wed Nov 11 2026. No macro, syntax, notation, axiom, sorry.
-/
import Derived.Test.YtlopmkmcjcijcaaChecked
import GoSem.Claim
import GoSem.ClaimJoined
import GoSem.ClaimMapViews
import Derived.JoinedTies
import Derived.KernelRfl
namespace Go.Proofs.Ytlopmkmcjcijcaa
/- THE CELL 'sum', in the pinned program and in every row, IS THE sha256 OF THE DUMP (.gsa) THAT YtlopmkmcjcijcaaProg.lean LOADS. Nothing in Lean hashes anything: it is a label: what it is worth is what the hold of that sum in a sandbox is worth. -/
noncomputable def Try.pinned : Pinned := { name := "ytlopmkmcjcijcaa", sum := "14c28ef8181e5dcd9cd58ce502e24a26fd6c4e8fdd3dc7467668aaea45d2db7b", checked := Try.checked }
namespace Rows
def none {H : Type} : Left H := { results := [], args := [] }

/-- 'weighbridgelaw11.ExtwalkGoes': WHATEVER THE INPUT: true; the input reads as it did. -/
def extwalkGoesSpec : ChangeSpec := { name := "extwalkGoes", fn := fun _ => fun
  | [d1, d2] => { results := [.lit (.bool true)], args := [d1, d2] }
  | _ => none }
def extwalkGoesRow : OpenClaim := { program := "ytlopmkmcjcijcaa", sum := "14c28ef8181e5dcd9cd58ce502e24a26fd6c4e8fdd3dc7467668aaea45d2db7b", func := "weighbridge/weighbridgelaw11.ExtwalkGoes", spec := "extwalkGoes", apart := false }
def ExtwalkGoesSaid : Prop := extwalkGoesRow.holds Try.pinned (OpenSpec.ofChange extwalkGoesSpec)

/-- ITS FALSE NEIGHBOUR: 'it returns false'. Refute it at one input. -/
def extwalkGoesWrong : ChangeSpec := { name := "extwalkGoes", fn := fun _ => fun
  | [d1, d2] => { results := [.lit (.bool false)], args := [d1, d2] }
  | _ => none }
def ExtwalkGoesWrongFalsely : Prop := extwalkGoesRow.holds Try.pinned (OpenSpec.ofChange extwalkGoesWrong)

/-- 'weighbridgelaw11.ExtwalkWrites': WHATEVER THE INPUT: true; the input reads as it did. -/
def extwalkWritesSpec : ChangeSpec := { name := "extwalkWrites", fn := fun _ => fun
  | [d1, d2] => { results := [.lit (.bool true)], args := [d1, d2] }
  | _ => none }
def extwalkWritesRow : OpenClaim := { program := "ytlopmkmcjcijcaa", sum := "14c28ef8181e5dcd9cd58ce502e24a26fd6c4e8fdd3dc7467668aaea45d2db7b", func := "weighbridge/weighbridgelaw11.ExtwalkWrites", spec := "extwalkWrites", apart := false }
def ExtwalkWritesSaid : Prop := extwalkWritesRow.holds Try.pinned (OpenSpec.ofChange extwalkWritesSpec)

/-- ITS FALSE NEIGHBOUR: 'it returns false'. Refute it at one input. -/
def extwalkWritesWrong : ChangeSpec := { name := "extwalkWrites", fn := fun _ => fun
  | [d1, d2] => { results := [.lit (.bool false)], args := [d1, d2] }
  | _ => none }
def ExtwalkWritesWrongFalsely : Prop := extwalkWritesRow.holds Try.pinned (OpenSpec.ofChange extwalkWritesWrong)

/-- 'weighbridgelaw11.ExtwalkBack': WHATEVER THE INPUT: true; the input reads as it did. -/
def extwalkBackSpec : ChangeSpec := { name := "extwalkBack", fn := fun _ => fun
  | [d1, d2, d3] => { results := [.lit (.bool true)], args := [d1, d2, d3] }
  | _ => none }
def extwalkBackRow : OpenClaim := { program := "ytlopmkmcjcijcaa", sum := "14c28ef8181e5dcd9cd58ce502e24a26fd6c4e8fdd3dc7467668aaea45d2db7b", func := "weighbridge/weighbridgelaw11.ExtwalkBack", spec := "extwalkBack", apart := false }
def ExtwalkBackSaid : Prop := extwalkBackRow.holds Try.pinned (OpenSpec.ofChange extwalkBackSpec)

/-- ITS FALSE NEIGHBOUR: 'it returns false'. Refute it at one input. -/
def extwalkBackWrong : ChangeSpec := { name := "extwalkBack", fn := fun _ => fun
  | [d1, d2, d3] => { results := [.lit (.bool false)], args := [d1, d2, d3] }
  | _ => none }
def ExtwalkBackWrongFalsely : Prop := extwalkBackRow.holds Try.pinned (OpenSpec.ofChange extwalkBackWrong)

/-- 'weighbridgelaw11.ExtwalkRanks': WHATEVER THE INPUT: true; the input reads as it did. -/
def extwalkRanksSpec : ChangeSpec := { name := "extwalkRanks", fn := fun _ => fun
  | [d1, d2] => { results := [.lit (.bool true)], args := [d1, d2] }
  | _ => none }
def extwalkRanksRow : OpenClaim := { program := "ytlopmkmcjcijcaa", sum := "14c28ef8181e5dcd9cd58ce502e24a26fd6c4e8fdd3dc7467668aaea45d2db7b", func := "weighbridge/weighbridgelaw11.ExtwalkRanks", spec := "extwalkRanks", apart := false }
def ExtwalkRanksSaid : Prop := extwalkRanksRow.holds Try.pinned (OpenSpec.ofChange extwalkRanksSpec)

/-- ITS FALSE NEIGHBOUR: 'it returns false'. Refute it at one input. -/
def extwalkRanksWrong : ChangeSpec := { name := "extwalkRanks", fn := fun _ => fun
  | [d1, d2] => { results := [.lit (.bool false)], args := [d1, d2] }
  | _ => none }
def ExtwalkRanksWrongFalsely : Prop := extwalkRanksRow.holds Try.pinned (OpenSpec.ofChange extwalkRanksWrong)

/-- 'weighbridgelaw12.SixheadReads': WHATEVER THE INPUT: true; the input reads as it did. -/
def sixheadReadsSpec : ChangeSpec := { name := "sixheadReads", fn := fun _ => fun
  | [d] => { results := [.lit (.bool true)], args := [d] }
  | _ => none }
def sixheadReadsRow : OpenClaim := { program := "ytlopmkmcjcijcaa", sum := "14c28ef8181e5dcd9cd58ce502e24a26fd6c4e8fdd3dc7467668aaea45d2db7b", func := "weighbridge/weighbridgelaw12.SixheadReads", spec := "sixheadReads", apart := false }
def SixheadReadsSaid : Prop := sixheadReadsRow.holds Try.pinned (OpenSpec.ofChange sixheadReadsSpec)

/-- ITS FALSE NEIGHBOUR: 'it returns false'. Refute it at one input. -/
def sixheadReadsWrong : ChangeSpec := { name := "sixheadReads", fn := fun _ => fun
  | [d] => { results := [.lit (.bool false)], args := [d] }
  | _ => none }
def SixheadReadsWrongFalsely : Prop := sixheadReadsRow.holds Try.pinned (OpenSpec.ofChange sixheadReadsWrong)

/-- 'weighbridgelaw12.SixheadWrites': WHATEVER THE INPUT: true; the input reads as it did. -/
def sixheadWritesSpec : ChangeSpec := { name := "sixheadWrites", fn := fun _ => fun
  | [d1, d2] => { results := [.lit (.bool true)], args := [d1, d2] }
  | _ => none }
def sixheadWritesRow : OpenClaim := { program := "ytlopmkmcjcijcaa", sum := "14c28ef8181e5dcd9cd58ce502e24a26fd6c4e8fdd3dc7467668aaea45d2db7b", func := "weighbridge/weighbridgelaw12.SixheadWrites", spec := "sixheadWrites", apart := false }
def SixheadWritesSaid : Prop := sixheadWritesRow.holds Try.pinned (OpenSpec.ofChange sixheadWritesSpec)

/-- ITS FALSE NEIGHBOUR: 'it returns false'. Refute it at one input. -/
def sixheadWritesWrong : ChangeSpec := { name := "sixheadWrites", fn := fun _ => fun
  | [d1, d2] => { results := [.lit (.bool false)], args := [d1, d2] }
  | _ => none }
def SixheadWritesWrongFalsely : Prop := sixheadWritesRow.holds Try.pinned (OpenSpec.ofChange sixheadWritesWrong)

/-- 'weighbridgelaw12.SixheadRests': WHATEVER THE INPUT: true; the input reads as it did. -/
def sixheadRestsSpec : ChangeSpec := { name := "sixheadRests", fn := fun _ => fun
  | [d1, d2] => { results := [.lit (.bool true)], args := [d1, d2] }
  | _ => none }
def sixheadRestsRow : OpenClaim := { program := "ytlopmkmcjcijcaa", sum := "14c28ef8181e5dcd9cd58ce502e24a26fd6c4e8fdd3dc7467668aaea45d2db7b", func := "weighbridge/weighbridgelaw12.SixheadRests", spec := "sixheadRests", apart := false }
def SixheadRestsSaid : Prop := sixheadRestsRow.holds Try.pinned (OpenSpec.ofChange sixheadRestsSpec)

/-- ITS FALSE NEIGHBOUR: 'it returns false'. Refute it at one input. -/
def sixheadRestsWrong : ChangeSpec := { name := "sixheadRests", fn := fun _ => fun
  | [d1, d2] => { results := [.lit (.bool false)], args := [d1, d2] }
  | _ => none }
def SixheadRestsWrongFalsely : Prop := sixheadRestsRow.holds Try.pinned (OpenSpec.ofChange sixheadRestsWrong)

/-- 'weighbridgelaw13.PortsReads': WHATEVER THE INPUT: true; the input reads as it did. -/
def portsReadsSpec : ChangeSpec := { name := "portsReads", fn := fun _ => fun
  | [d1, d2, d3] => { results := [.lit (.bool true)], args := [d1, d2, d3] }
  | _ => none }
def portsReadsRow : OpenClaim := { program := "ytlopmkmcjcijcaa", sum := "14c28ef8181e5dcd9cd58ce502e24a26fd6c4e8fdd3dc7467668aaea45d2db7b", func := "weighbridge/weighbridgelaw13.PortsReads", spec := "portsReads", apart := false }
def PortsReadsSaid : Prop := portsReadsRow.holds Try.pinned (OpenSpec.ofChange portsReadsSpec)

/-- ITS FALSE NEIGHBOUR: 'it returns false'. Refute it at one input. -/
def portsReadsWrong : ChangeSpec := { name := "portsReads", fn := fun _ => fun
  | [d1, d2, d3] => { results := [.lit (.bool false)], args := [d1, d2, d3] }
  | _ => none }
def PortsReadsWrongFalsely : Prop := portsReadsRow.holds Try.pinned (OpenSpec.ofChange portsReadsWrong)

/-- 'weighbridgelaw13.PortsWrites': WHATEVER THE INPUT: true; the input reads as it did. -/
def portsWritesSpec : ChangeSpec := { name := "portsWrites", fn := fun _ => fun
  | [d1, d2, d3] => { results := [.lit (.bool true)], args := [d1, d2, d3] }
  | _ => none }
def portsWritesRow : OpenClaim := { program := "ytlopmkmcjcijcaa", sum := "14c28ef8181e5dcd9cd58ce502e24a26fd6c4e8fdd3dc7467668aaea45d2db7b", func := "weighbridge/weighbridgelaw13.PortsWrites", spec := "portsWrites", apart := false }
def PortsWritesSaid : Prop := portsWritesRow.holds Try.pinned (OpenSpec.ofChange portsWritesSpec)

/-- ITS FALSE NEIGHBOUR: 'it returns false'. Refute it at one input. -/
def portsWritesWrong : ChangeSpec := { name := "portsWrites", fn := fun _ => fun
  | [d1, d2, d3] => { results := [.lit (.bool false)], args := [d1, d2, d3] }
  | _ => none }
def PortsWritesWrongFalsely : Prop := portsWritesRow.holds Try.pinned (OpenSpec.ofChange portsWritesWrong)

/-- 'weighbridgelaw13.PortsBack': WHATEVER THE INPUT: true; the input reads as it did. -/
def portsBackSpec : ChangeSpec := { name := "portsBack", fn := fun _ => fun
  | [d1, d2, d3] => { results := [.lit (.bool true)], args := [d1, d2, d3] }
  | _ => none }
def portsBackRow : OpenClaim := { program := "ytlopmkmcjcijcaa", sum := "14c28ef8181e5dcd9cd58ce502e24a26fd6c4e8fdd3dc7467668aaea45d2db7b", func := "weighbridge/weighbridgelaw13.PortsBack", spec := "portsBack", apart := false }
def PortsBackSaid : Prop := portsBackRow.holds Try.pinned (OpenSpec.ofChange portsBackSpec)

/-- ITS FALSE NEIGHBOUR: 'it returns false'. Refute it at one input. -/
def portsBackWrong : ChangeSpec := { name := "portsBack", fn := fun _ => fun
  | [d1, d2, d3] => { results := [.lit (.bool false)], args := [d1, d2, d3] }
  | _ => none }
def PortsBackWrongFalsely : Prop := portsBackRow.holds Try.pinned (OpenSpec.ofChange portsBackWrong)

/-- 'weighbridgelaw13.PortsSums': WHATEVER THE INPUT: true; the input reads as it did. -/
def portsSumsSpec : ChangeSpec := { name := "portsSums", fn := fun _ => fun
  | [d1, d2] => { results := [.lit (.bool true)], args := [d1, d2] }
  | _ => none }
def portsSumsRow : OpenClaim := { program := "ytlopmkmcjcijcaa", sum := "14c28ef8181e5dcd9cd58ce502e24a26fd6c4e8fdd3dc7467668aaea45d2db7b", func := "weighbridge/weighbridgelaw13.PortsSums", spec := "portsSums", unfollowed := true, recurses := true, apart := false }
def PortsSumsSaid : Prop := portsSumsRow.holds Try.pinned (OpenSpec.ofChange portsSumsSpec)

/-- ITS FALSE NEIGHBOUR: 'it returns false'. Refute it at one input. -/
def portsSumsWrong : ChangeSpec := { name := "portsSums", fn := fun _ => fun
  | [d1, d2] => { results := [.lit (.bool false)], args := [d1, d2] }
  | _ => none }
def PortsSumsWrongFalsely : Prop := portsSumsRow.holds Try.pinned (OpenSpec.ofChange portsSumsWrong)

/-- 'weighbridgelaw13.PortsSeals': WHATEVER THE INPUT: true; the input reads as it did. -/
def portsSealsSpec : ChangeSpec := { name := "portsSeals", fn := fun _ => fun
  | [d1, d2] => { results := [.lit (.bool true)], args := [d1, d2] }
  | _ => none }
def portsSealsRow : OpenClaim := { program := "ytlopmkmcjcijcaa", sum := "14c28ef8181e5dcd9cd58ce502e24a26fd6c4e8fdd3dc7467668aaea45d2db7b", func := "weighbridge/weighbridgelaw13.PortsSeals", spec := "portsSeals", unfollowed := true, recurses := true, apart := false }
def PortsSealsSaid : Prop := portsSealsRow.holds Try.pinned (OpenSpec.ofChange portsSealsSpec)

/-- ITS FALSE NEIGHBOUR: 'it returns false'. Refute it at one input. -/
def portsSealsWrong : ChangeSpec := { name := "portsSeals", fn := fun _ => fun
  | [d1, d2] => { results := [.lit (.bool false)], args := [d1, d2] }
  | _ => none }
def PortsSealsWrongFalsely : Prop := portsSealsRow.holds Try.pinned (OpenSpec.ofChange portsSealsWrong)

/-- 'weighbridgetop.WholeSix': WHATEVER THE INPUT: true; the input reads as it did. -/
def wholeSixSpec : ChangeSpec := { name := "wholeSix", fn := fun _ => fun
  | [d1, d2, d3] => { results := [.lit (.bool true)], args := [d1, d2, d3] }
  | _ => none }
def wholeSixRow : OpenClaim := { program := "ytlopmkmcjcijcaa", sum := "14c28ef8181e5dcd9cd58ce502e24a26fd6c4e8fdd3dc7467668aaea45d2db7b", func := "weighbridge/weighbridgetop.WholeSix", spec := "wholeSix", apart := false }
def WholeSixSaid : Prop := wholeSixRow.holds Try.pinned (OpenSpec.ofChange wholeSixSpec)

/-- ITS FALSE NEIGHBOUR: 'it returns false'. Refute it at one input. -/
def wholeSixWrong : ChangeSpec := { name := "wholeSix", fn := fun _ => fun
  | [d1, d2, d3] => { results := [.lit (.bool false)], args := [d1, d2, d3] }
  | _ => none }
def WholeSixWrongFalsely : Prop := wholeSixRow.holds Try.pinned (OpenSpec.ofChange wholeSixWrong)

/- THE SECOND FORM. 'bulk': how many values and letters a reading holds, each counted each time it is reached (what is shared counts as often as it is met; a slice's spare places count too). A statement '..UptoSaid' is the law's where the arguments, and the package variables that the reading takes, are together of bulk at most 1048576: NARROWER than '..Said'. Prove '..Said' where nothing that the law and all that it calls make is longer than what came in: it says more and counts as full. Else prove '..UptoSaid'. A law counts once. -/
mutual
def uptoBulk {H : Type} : DataW H → Nat
  | .lit (.string bytes) => bytes.length + 1
  | .lit _ => 1
  | .nil => 1
  | .ptr d => uptoBulk d + 1
  | .slice elems spare => uptoBulkAll elems + uptoBulkAll spare + 1
  | .agg parts => uptoBulkAll parts + 1
  | .iface _ d => uptoBulk d + 1
  | .map entries => uptoBulkEntries entries + 1
  | .held _ => 1
def uptoBulkAll {H : Type} : List (DataW H) → Nat
  | [] => 0
  | d :: r => uptoBulk d + uptoBulkAll r
def uptoBulkEntries {H : Type} : List (Lit × DataW H) → Nat
  | [] => 0
  | x :: r => uptoBulkEntry x + uptoBulkEntries r
def uptoBulkEntry {H : Type} : Lit × DataW H → Nat
  | (.string bytes, d) => bytes.length + uptoBulk d + 1
  | (_, d) => uptoBulk d + 1
 end
def uptoSmall : (H : Type) → List (DataW H) → Bool := fun _ ds => decide (uptoBulkAll ds ≤ 1048576)
def OpenSpec.upto (s : _root_.Go.ChangeSpec) : _root_.Go.OpenSpec := { _root_.Go.OpenSpec.ofChange s with cond := some uptoSmall }

/-- 'weighbridgelaw11.ExtwalkGoes', WHERE WHAT IT READS IS OF BULK AT MOST 1048576: true; the input reads as it did. -/
def extwalkGoesUptoRow : OpenClaim := { program := "ytlopmkmcjcijcaa", sum := "14c28ef8181e5dcd9cd58ce502e24a26fd6c4e8fdd3dc7467668aaea45d2db7b", func := "weighbridge/weighbridgelaw11.ExtwalkGoes", spec := "extwalkGoes", apart := false, narrowed := true }
def ExtwalkGoesUptoSaid : Prop := extwalkGoesUptoRow.holds Try.pinned (OpenSpec.upto extwalkGoesSpec)

/-- 'weighbridgelaw11.ExtwalkWrites', WHERE WHAT IT READS IS OF BULK AT MOST 1048576: true; the input reads as it did. -/
def extwalkWritesUptoRow : OpenClaim := { program := "ytlopmkmcjcijcaa", sum := "14c28ef8181e5dcd9cd58ce502e24a26fd6c4e8fdd3dc7467668aaea45d2db7b", func := "weighbridge/weighbridgelaw11.ExtwalkWrites", spec := "extwalkWrites", apart := false, narrowed := true }
def ExtwalkWritesUptoSaid : Prop := extwalkWritesUptoRow.holds Try.pinned (OpenSpec.upto extwalkWritesSpec)

/-- 'weighbridgelaw11.ExtwalkBack', WHERE WHAT IT READS IS OF BULK AT MOST 1048576: true; the input reads as it did. -/
def extwalkBackUptoRow : OpenClaim := { program := "ytlopmkmcjcijcaa", sum := "14c28ef8181e5dcd9cd58ce502e24a26fd6c4e8fdd3dc7467668aaea45d2db7b", func := "weighbridge/weighbridgelaw11.ExtwalkBack", spec := "extwalkBack", apart := false, narrowed := true }
def ExtwalkBackUptoSaid : Prop := extwalkBackUptoRow.holds Try.pinned (OpenSpec.upto extwalkBackSpec)

/-- 'weighbridgelaw11.ExtwalkRanks', WHERE WHAT IT READS IS OF BULK AT MOST 1048576: true; the input reads as it did. -/
def extwalkRanksUptoRow : OpenClaim := { program := "ytlopmkmcjcijcaa", sum := "14c28ef8181e5dcd9cd58ce502e24a26fd6c4e8fdd3dc7467668aaea45d2db7b", func := "weighbridge/weighbridgelaw11.ExtwalkRanks", spec := "extwalkRanks", apart := false, narrowed := true }
def ExtwalkRanksUptoSaid : Prop := extwalkRanksUptoRow.holds Try.pinned (OpenSpec.upto extwalkRanksSpec)

/-- 'weighbridgelaw12.SixheadReads', WHERE WHAT IT READS IS OF BULK AT MOST 1048576: true; the input reads as it did. -/
def sixheadReadsUptoRow : OpenClaim := { program := "ytlopmkmcjcijcaa", sum := "14c28ef8181e5dcd9cd58ce502e24a26fd6c4e8fdd3dc7467668aaea45d2db7b", func := "weighbridge/weighbridgelaw12.SixheadReads", spec := "sixheadReads", apart := false, narrowed := true }
def SixheadReadsUptoSaid : Prop := sixheadReadsUptoRow.holds Try.pinned (OpenSpec.upto sixheadReadsSpec)

/-- 'weighbridgelaw12.SixheadWrites', WHERE WHAT IT READS IS OF BULK AT MOST 1048576: true; the input reads as it did. -/
def sixheadWritesUptoRow : OpenClaim := { program := "ytlopmkmcjcijcaa", sum := "14c28ef8181e5dcd9cd58ce502e24a26fd6c4e8fdd3dc7467668aaea45d2db7b", func := "weighbridge/weighbridgelaw12.SixheadWrites", spec := "sixheadWrites", apart := false, narrowed := true }
def SixheadWritesUptoSaid : Prop := sixheadWritesUptoRow.holds Try.pinned (OpenSpec.upto sixheadWritesSpec)

/-- 'weighbridgelaw12.SixheadRests', WHERE WHAT IT READS IS OF BULK AT MOST 1048576: true; the input reads as it did. -/
def sixheadRestsUptoRow : OpenClaim := { program := "ytlopmkmcjcijcaa", sum := "14c28ef8181e5dcd9cd58ce502e24a26fd6c4e8fdd3dc7467668aaea45d2db7b", func := "weighbridge/weighbridgelaw12.SixheadRests", spec := "sixheadRests", apart := false, narrowed := true }
def SixheadRestsUptoSaid : Prop := sixheadRestsUptoRow.holds Try.pinned (OpenSpec.upto sixheadRestsSpec)

/-- 'weighbridgelaw13.PortsReads', WHERE WHAT IT READS IS OF BULK AT MOST 1048576: true; the input reads as it did. -/
def portsReadsUptoRow : OpenClaim := { program := "ytlopmkmcjcijcaa", sum := "14c28ef8181e5dcd9cd58ce502e24a26fd6c4e8fdd3dc7467668aaea45d2db7b", func := "weighbridge/weighbridgelaw13.PortsReads", spec := "portsReads", apart := false, narrowed := true }
def PortsReadsUptoSaid : Prop := portsReadsUptoRow.holds Try.pinned (OpenSpec.upto portsReadsSpec)

/-- 'weighbridgelaw13.PortsWrites', WHERE WHAT IT READS IS OF BULK AT MOST 1048576: true; the input reads as it did. -/
def portsWritesUptoRow : OpenClaim := { program := "ytlopmkmcjcijcaa", sum := "14c28ef8181e5dcd9cd58ce502e24a26fd6c4e8fdd3dc7467668aaea45d2db7b", func := "weighbridge/weighbridgelaw13.PortsWrites", spec := "portsWrites", apart := false, narrowed := true }
def PortsWritesUptoSaid : Prop := portsWritesUptoRow.holds Try.pinned (OpenSpec.upto portsWritesSpec)

/-- 'weighbridgelaw13.PortsBack', WHERE WHAT IT READS IS OF BULK AT MOST 1048576: true; the input reads as it did. -/
def portsBackUptoRow : OpenClaim := { program := "ytlopmkmcjcijcaa", sum := "14c28ef8181e5dcd9cd58ce502e24a26fd6c4e8fdd3dc7467668aaea45d2db7b", func := "weighbridge/weighbridgelaw13.PortsBack", spec := "portsBack", apart := false, narrowed := true }
def PortsBackUptoSaid : Prop := portsBackUptoRow.holds Try.pinned (OpenSpec.upto portsBackSpec)

/-- 'weighbridgelaw13.PortsSums', WHERE WHAT IT READS IS OF BULK AT MOST 1048576: true; the input reads as it did. -/
def portsSumsUptoRow : OpenClaim := { program := "ytlopmkmcjcijcaa", sum := "14c28ef8181e5dcd9cd58ce502e24a26fd6c4e8fdd3dc7467668aaea45d2db7b", func := "weighbridge/weighbridgelaw13.PortsSums", spec := "portsSums", unfollowed := true, recurses := true, apart := false, narrowed := true }
def PortsSumsUptoSaid : Prop := portsSumsUptoRow.holds Try.pinned (OpenSpec.upto portsSumsSpec)

/-- 'weighbridgelaw13.PortsSeals', WHERE WHAT IT READS IS OF BULK AT MOST 1048576: true; the input reads as it did. -/
def portsSealsUptoRow : OpenClaim := { program := "ytlopmkmcjcijcaa", sum := "14c28ef8181e5dcd9cd58ce502e24a26fd6c4e8fdd3dc7467668aaea45d2db7b", func := "weighbridge/weighbridgelaw13.PortsSeals", spec := "portsSeals", unfollowed := true, recurses := true, apart := false, narrowed := true }
def PortsSealsUptoSaid : Prop := portsSealsUptoRow.holds Try.pinned (OpenSpec.upto portsSealsSpec)

/-- 'weighbridgetop.WholeSix', WHERE WHAT IT READS IS OF BULK AT MOST 1048576: true; the input reads as it did. -/
def wholeSixUptoRow : OpenClaim := { program := "ytlopmkmcjcijcaa", sum := "14c28ef8181e5dcd9cd58ce502e24a26fd6c4e8fdd3dc7467668aaea45d2db7b", func := "weighbridge/weighbridgetop.WholeSix", spec := "wholeSix", apart := false, narrowed := true }
def WholeSixUptoSaid : Prop := wholeSixUptoRow.holds Try.pinned (OpenSpec.upto wholeSixSpec)

end Rows
end Go.Proofs.Ytlopmkmcjcijcaa
