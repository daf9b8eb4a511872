/-
  No cell of these rows narrows 'for every input' (looked for: loops, veiled, ifaces, maps, wideKeys, modest, calm, conditions, laid).
  DERIVED. THE GIVEN ROWS OF THIS SEAT. 12 by the template 'for every input the law returns true; each argument reads behind the call as it read before'; 0 by the template 'total and deterministic' (their statements: YtgpdghibkkgonaaTotals.lean).
  GIVEN WITH THE SEED: the statements are not yours to turn. If you find one false, say at which input.
  Laid BY PROGRAM, IN A SANDBOX (cutbox-rows.mjs): the forced cells as the released guide's own fill.sh prints them over the translation f740a6e0decc53df… (all of the seat's roots in one cut). By AI agents, Wed Nov 11 2026. No macro, syntax, notation, axiom, sorry.
-/
import Derived.Test.YtgpdghibkkgonaaChecked
import GoSem.Claim
import GoSem.ClaimJoined
import GoSem.ClaimMapViews
import Derived.JoinedTies
import Derived.KernelRfl
namespace Go.Proofs.Ytgpdghibkkgonaa
/- THE CELL 'sum', in the pinned program and in every row, IS THE sha256 OF THE DUMP (.gsa) THAT YtgpdghibkkgonaaProg.lean LOADS. Nothing in Lean hashes anything: it is a label: what it is worth is what the hold of that sum in a sandbox is worth. -/
noncomputable def Try.pinned : Pinned := { name := "ytgpdghibkkgonaa", sum := "f740a6e0decc53dfe86df280573d3c387f81f6bb08390d86a93e0eba4cc14ae2", checked := Try.checked }
namespace Rows
def none {H : Type} : Left H := { results := [], args := [] }

/-- 'weighbridgelaw02.WideTexts': WHATEVER THE INPUT: true; the input reads as it did. -/
def wideTextsSpec : ChangeSpec := { name := "wideTexts", fn := fun _ => fun
  | [d1, d2] => { results := [.lit (.bool true)], args := [d1, d2] }
  | _ => none }
def wideTextsRow : OpenClaim := { program := "ytgpdghibkkgonaa", sum := "f740a6e0decc53dfe86df280573d3c387f81f6bb08390d86a93e0eba4cc14ae2", func := "weighbridge/weighbridgelaw02.WideTexts", spec := "wideTexts", inPlace := ["math/bits.Add64", "math/bits.Sub64"], named := ["math/bits.divideError", "math/bits.overflowError"], apart := false }
def WideTextsSaid : Prop := wideTextsRow.holds Try.pinned (OpenSpec.ofChange wideTextsSpec)

/-- ITS FALSE NEIGHBOUR: 'it returns false'. Refute it at one input. -/
def wideTextsWrong : ChangeSpec := { name := "wideTexts", fn := fun _ => fun
  | [d1, d2] => { results := [.lit (.bool false)], args := [d1, d2] }
  | _ => none }
def WideTextsWrongFalsely : Prop := wideTextsRow.holds Try.pinned (OpenSpec.ofChange wideTextsWrong)

/-- 'weighbridgelaw02.WideBack': WHATEVER THE INPUT: true; the input reads as it did. -/
def wideBackSpec : ChangeSpec := { name := "wideBack", fn := fun _ => fun
  | [d1, d2, d3] => { results := [.lit (.bool true)], args := [d1, d2, d3] }
  | _ => none }
def wideBackRow : OpenClaim := { program := "ytgpdghibkkgonaa", sum := "f740a6e0decc53dfe86df280573d3c387f81f6bb08390d86a93e0eba4cc14ae2", func := "weighbridge/weighbridgelaw02.WideBack", spec := "wideBack", inPlace := ["math/bits.Add64", "math/bits.Sub64"], named := ["math/bits.divideError", "math/bits.overflowError"], apart := false }
def WideBackSaid : Prop := wideBackRow.holds Try.pinned (OpenSpec.ofChange wideBackSpec)

/-- ITS FALSE NEIGHBOUR: 'it returns false'. Refute it at one input. -/
def wideBackWrong : ChangeSpec := { name := "wideBack", fn := fun _ => fun
  | [d1, d2, d3] => { results := [.lit (.bool false)], args := [d1, d2, d3] }
  | _ => none }
def WideBackWrongFalsely : Prop := wideBackRow.holds Try.pinned (OpenSpec.ofChange wideBackWrong)

/-- 'weighbridgelaw03.OnesumSums': WHATEVER THE INPUT: true; the input reads as it did. -/
def onesumSumsSpec : ChangeSpec := { name := "onesumSums", fn := fun _ => fun
  | [d1, d2] => { results := [.lit (.bool true)], args := [d1, d2] }
  | _ => none }
def onesumSumsRow : OpenClaim := { program := "ytgpdghibkkgonaa", sum := "f740a6e0decc53dfe86df280573d3c387f81f6bb08390d86a93e0eba4cc14ae2", func := "weighbridge/weighbridgelaw03.OnesumSums", spec := "onesumSums", unfollowed := true, recurses := true, apart := false }
def OnesumSumsSaid : Prop := onesumSumsRow.holds Try.pinned (OpenSpec.ofChange onesumSumsSpec)

/-- ITS FALSE NEIGHBOUR: 'it returns false'. Refute it at one input. -/
def onesumSumsWrong : ChangeSpec := { name := "onesumSums", fn := fun _ => fun
  | [d1, d2] => { results := [.lit (.bool false)], args := [d1, d2] }
  | _ => none }
def OnesumSumsWrongFalsely : Prop := onesumSumsRow.holds Try.pinned (OpenSpec.ofChange onesumSumsWrong)

/-- 'weighbridgelaw03.OnesumJoins': WHATEVER THE INPUT: true; the input reads as it did. -/
def onesumJoinsSpec : ChangeSpec := { name := "onesumJoins", fn := fun _ => fun
  | [d1, d2, d3] => { results := [.lit (.bool true)], args := [d1, d2, d3] }
  | _ => none }
def onesumJoinsRow : OpenClaim := { program := "ytgpdghibkkgonaa", sum := "f740a6e0decc53dfe86df280573d3c387f81f6bb08390d86a93e0eba4cc14ae2", func := "weighbridge/weighbridgelaw03.OnesumJoins", spec := "onesumJoins", unfollowed := true, recurses := true, apart := false }
def OnesumJoinsSaid : Prop := onesumJoinsRow.holds Try.pinned (OpenSpec.ofChange onesumJoinsSpec)

/-- ITS FALSE NEIGHBOUR: 'it returns false'. Refute it at one input. -/
def onesumJoinsWrong : ChangeSpec := { name := "onesumJoins", fn := fun _ => fun
  | [d1, d2, d3] => { results := [.lit (.bool false)], args := [d1, d2, d3] }
  | _ => none }
def OnesumJoinsWrongFalsely : Prop := onesumJoinsRow.holds Try.pinned (OpenSpec.ofChange onesumJoinsWrong)

/-- 'weighbridgelaw03.OnesumFills': WHATEVER THE INPUT: true; the input reads as it did. -/
def onesumFillsSpec : ChangeSpec := { name := "onesumFills", fn := fun _ => fun
  | [d1, d2] => { results := [.lit (.bool true)], args := [d1, d2] }
  | _ => none }
def onesumFillsRow : OpenClaim := { program := "ytgpdghibkkgonaa", sum := "f740a6e0decc53dfe86df280573d3c387f81f6bb08390d86a93e0eba4cc14ae2", func := "weighbridge/weighbridgelaw03.OnesumFills", spec := "onesumFills", unfollowed := true, recurses := true, apart := false }
def OnesumFillsSaid : Prop := onesumFillsRow.holds Try.pinned (OpenSpec.ofChange onesumFillsSpec)

/-- ITS FALSE NEIGHBOUR: 'it returns false'. Refute it at one input. -/
def onesumFillsWrong : ChangeSpec := { name := "onesumFills", fn := fun _ => fun
  | [d1, d2] => { results := [.lit (.bool false)], args := [d1, d2] }
  | _ => none }
def OnesumFillsWrongFalsely : Prop := onesumFillsRow.holds Try.pinned (OpenSpec.ofChange onesumFillsWrong)

/-- 'weighbridgelaw03.OnesumFinds': WHATEVER THE INPUT: true; the input reads as it did. -/
def onesumFindsSpec : ChangeSpec := { name := "onesumFinds", fn := fun _ => fun
  | [d1, d2, d3] => { results := [.lit (.bool true)], args := [d1, d2, d3] }
  | _ => none }
def onesumFindsRow : OpenClaim := { program := "ytgpdghibkkgonaa", sum := "f740a6e0decc53dfe86df280573d3c387f81f6bb08390d86a93e0eba4cc14ae2", func := "weighbridge/weighbridgelaw03.OnesumFinds", spec := "onesumFinds", unfollowed := true, recurses := true, apart := false }
def OnesumFindsSaid : Prop := onesumFindsRow.holds Try.pinned (OpenSpec.ofChange onesumFindsSpec)

/-- ITS FALSE NEIGHBOUR: 'it returns false'. Refute it at one input. -/
def onesumFindsWrong : ChangeSpec := { name := "onesumFinds", fn := fun _ => fun
  | [d1, d2, d3] => { results := [.lit (.bool false)], args := [d1, d2, d3] }
  | _ => none }
def OnesumFindsWrongFalsely : Prop := onesumFindsRow.holds Try.pinned (OpenSpec.ofChange onesumFindsWrong)

/-- 'weighbridgelaw04.AdjustWords': WHATEVER THE INPUT: true; the input reads as it did. -/
def adjustWordsSpec : ChangeSpec := { name := "adjustWords", fn := fun _ => fun
  | [d1, d2, d3] => { results := [.lit (.bool true)], args := [d1, d2, d3] }
  | _ => none }
def adjustWordsRow : OpenClaim := { program := "ytgpdghibkkgonaa", sum := "f740a6e0decc53dfe86df280573d3c387f81f6bb08390d86a93e0eba4cc14ae2", func := "weighbridge/weighbridgelaw04.AdjustWords", spec := "adjustWords", unfollowed := true, recurses := true, apart := false }
def AdjustWordsSaid : Prop := adjustWordsRow.holds Try.pinned (OpenSpec.ofChange adjustWordsSpec)

/-- ITS FALSE NEIGHBOUR: 'it returns false'. Refute it at one input. -/
def adjustWordsWrong : ChangeSpec := { name := "adjustWords", fn := fun _ => fun
  | [d1, d2, d3] => { results := [.lit (.bool false)], args := [d1, d2, d3] }
  | _ => none }
def AdjustWordsWrongFalsely : Prop := adjustWordsRow.holds Try.pinned (OpenSpec.ofChange adjustWordsWrong)

/-- 'weighbridgelaw04.AdjustAts': WHATEVER THE INPUT: true; the input reads as it did. -/
def adjustAtsSpec : ChangeSpec := { name := "adjustAts", fn := fun _ => fun
  | [d1, d2, d3] => { results := [.lit (.bool true)], args := [d1, d2, d3] }
  | _ => none }
def adjustAtsRow : OpenClaim := { program := "ytgpdghibkkgonaa", sum := "f740a6e0decc53dfe86df280573d3c387f81f6bb08390d86a93e0eba4cc14ae2", func := "weighbridge/weighbridgelaw04.AdjustAts", spec := "adjustAts", unfollowed := true, recurses := true, apart := false }
def AdjustAtsSaid : Prop := adjustAtsRow.holds Try.pinned (OpenSpec.ofChange adjustAtsSpec)

/-- ITS FALSE NEIGHBOUR: 'it returns false'. Refute it at one input. -/
def adjustAtsWrong : ChangeSpec := { name := "adjustAts", fn := fun _ => fun
  | [d1, d2, d3] => { results := [.lit (.bool false)], args := [d1, d2, d3] }
  | _ => none }
def AdjustAtsWrongFalsely : Prop := adjustAtsRow.holds Try.pinned (OpenSpec.ofChange adjustAtsWrong)

/-- 'weighbridgelaw04.AdjustFresh': WHATEVER THE INPUT: true; the input reads as it did. -/
def adjustFreshSpec : ChangeSpec := { name := "adjustFresh", fn := fun _ => fun
  | [d1, d2, d3] => { results := [.lit (.bool true)], args := [d1, d2, d3] }
  | _ => none }
def adjustFreshRow : OpenClaim := { program := "ytgpdghibkkgonaa", sum := "f740a6e0decc53dfe86df280573d3c387f81f6bb08390d86a93e0eba4cc14ae2", func := "weighbridge/weighbridgelaw04.AdjustFresh", spec := "adjustFresh", unfollowed := true, recurses := true, apart := false }
def AdjustFreshSaid : Prop := adjustFreshRow.holds Try.pinned (OpenSpec.ofChange adjustFreshSpec)

/-- ITS FALSE NEIGHBOUR: 'it returns false'. Refute it at one input. -/
def adjustFreshWrong : ChangeSpec := { name := "adjustFresh", fn := fun _ => fun
  | [d1, d2, d3] => { results := [.lit (.bool false)], args := [d1, d2, d3] }
  | _ => none }
def AdjustFreshWrongFalsely : Prop := adjustFreshRow.holds Try.pinned (OpenSpec.ofChange adjustFreshWrong)

/-- 'weighbridgelaw04.AdjustBack': WHATEVER THE INPUT: true; the input reads as it did. -/
def adjustBackSpec : ChangeSpec := { name := "adjustBack", fn := fun _ => fun
  | [d1, d2, d3] => { results := [.lit (.bool true)], args := [d1, d2, d3] }
  | _ => none }
def adjustBackRow : OpenClaim := { program := "ytgpdghibkkgonaa", sum := "f740a6e0decc53dfe86df280573d3c387f81f6bb08390d86a93e0eba4cc14ae2", func := "weighbridge/weighbridgelaw04.AdjustBack", spec := "adjustBack", unfollowed := true, recurses := true, apart := false }
def AdjustBackSaid : Prop := adjustBackRow.holds Try.pinned (OpenSpec.ofChange adjustBackSpec)

/-- ITS FALSE NEIGHBOUR: 'it returns false'. Refute it at one input. -/
def adjustBackWrong : ChangeSpec := { name := "adjustBack", fn := fun _ => fun
  | [d1, d2, d3] => { results := [.lit (.bool false)], args := [d1, d2, d3] }
  | _ => none }
def AdjustBackWrongFalsely : Prop := adjustBackRow.holds Try.pinned (OpenSpec.ofChange adjustBackWrong)

/-- 'weighbridgetop.WholeNumbers': WHATEVER THE INPUT: true; the input reads as it did. -/
def wholeNumbersSpec : ChangeSpec := { name := "wholeNumbers", fn := fun _ => fun
  | [d1, d2, d3] => { results := [.lit (.bool true)], args := [d1, d2, d3] }
  | _ => none }
def wholeNumbersRow : OpenClaim := { program := "ytgpdghibkkgonaa", sum := "f740a6e0decc53dfe86df280573d3c387f81f6bb08390d86a93e0eba4cc14ae2", func := "weighbridge/weighbridgetop.WholeNumbers", spec := "wholeNumbers", inPlace := ["math/bits.Add64"], unfollowed := true, recurses := true, apart := false }
def WholeNumbersSaid : Prop := wholeNumbersRow.holds Try.pinned (OpenSpec.ofChange wholeNumbersSpec)

/-- ITS FALSE NEIGHBOUR: 'it returns false'. Refute it at one input. -/
def wholeNumbersWrong : ChangeSpec := { name := "wholeNumbers", fn := fun _ => fun
  | [d1, d2, d3] => { results := [.lit (.bool false)], args := [d1, d2, d3] }
  | _ => none }
def WholeNumbersWrongFalsely : Prop := wholeNumbersRow.holds Try.pinned (OpenSpec.ofChange wholeNumbersWrong)

/-- 'weighbridgetop.WholeSums': WHATEVER THE INPUT: true; the input reads as it did. -/
def wholeSumsSpec : ChangeSpec := { name := "wholeSums", fn := fun _ => fun
  | [d1, d2, d3] => { results := [.lit (.bool true)], args := [d1, d2, d3] }
  | _ => none }
def wholeSumsRow : OpenClaim := { program := "ytgpdghibkkgonaa", sum := "f740a6e0decc53dfe86df280573d3c387f81f6bb08390d86a93e0eba4cc14ae2", func := "weighbridge/weighbridgetop.WholeSums", spec := "wholeSums", unfollowed := true, recurses := true, apart := false }
def WholeSumsSaid : Prop := wholeSumsRow.holds Try.pinned (OpenSpec.ofChange wholeSumsSpec)

/-- ITS FALSE NEIGHBOUR: 'it returns false'. Refute it at one input. -/
def wholeSumsWrong : ChangeSpec := { name := "wholeSums", fn := fun _ => fun
  | [d1, d2, d3] => { results := [.lit (.bool false)], args := [d1, d2, d3] }
  | _ => none }
def WholeSumsWrongFalsely : Prop := wholeSumsRow.holds Try.pinned (OpenSpec.ofChange wholeSumsWrong)

/- THE SECOND FORM. 'bulk': how many values and letters a reading holds, each counted each time it is reached (what is shared counts as often as it is met; a slice's spare places count too). A statement '..UptoSaid' is the law's where the arguments, and the package variables that the reading takes, are together of bulk at most 1048576: NARROWER than '..Said'. Prove '..Said' where nothing that the law and all that it calls make is longer than what came in: it says more and counts as full. Else prove '..UptoSaid'. A law counts once. -/
mutual
def uptoBulk {H : Type} : DataW H → Nat
  | .lit (.string bytes) => bytes.length + 1
  | .lit _ => 1
  | .nil => 1
  | .ptr d => uptoBulk d + 1
  | .slice elems spare => uptoBulkAll elems + uptoBulkAll spare + 1
  | .agg parts => uptoBulkAll parts + 1
  | .iface _ d => uptoBulk d + 1
  | .map entries => uptoBulkEntries entries + 1
  | .held _ => 1
def uptoBulkAll {H : Type} : List (DataW H) → Nat
  | [] => 0
  | d :: r => uptoBulk d + uptoBulkAll r
def uptoBulkEntries {H : Type} : List (Lit × DataW H) → Nat
  | [] => 0
  | x :: r => uptoBulkEntry x + uptoBulkEntries r
def uptoBulkEntry {H : Type} : Lit × DataW H → Nat
  | (.string bytes, d) => bytes.length + uptoBulk d + 1
  | (_, d) => uptoBulk d + 1
 end
def uptoSmall : (H : Type) → List (DataW H) → Bool := fun _ ds => decide (uptoBulkAll ds ≤ 1048576)
def OpenSpec.upto (s : _root_.Go.ChangeSpec) : _root_.Go.OpenSpec := { _root_.Go.OpenSpec.ofChange s with cond := some uptoSmall }

/-- 'weighbridgelaw02.WideTexts', WHERE WHAT IT READS IS OF BULK AT MOST 1048576: true; the input reads as it did. -/
def wideTextsUptoRow : OpenClaim := { program := "ytgpdghibkkgonaa", sum := "f740a6e0decc53dfe86df280573d3c387f81f6bb08390d86a93e0eba4cc14ae2", func := "weighbridge/weighbridgelaw02.WideTexts", spec := "wideTexts", inPlace := ["math/bits.Add64", "math/bits.Sub64"], named := ["math/bits.divideError", "math/bits.overflowError"], apart := false, narrowed := true }
def WideTextsUptoSaid : Prop := wideTextsUptoRow.holds Try.pinned (OpenSpec.upto wideTextsSpec)

/-- 'weighbridgelaw02.WideBack', WHERE WHAT IT READS IS OF BULK AT MOST 1048576: true; the input reads as it did. -/
def wideBackUptoRow : OpenClaim := { program := "ytgpdghibkkgonaa", sum := "f740a6e0decc53dfe86df280573d3c387f81f6bb08390d86a93e0eba4cc14ae2", func := "weighbridge/weighbridgelaw02.WideBack", spec := "wideBack", inPlace := ["math/bits.Add64", "math/bits.Sub64"], named := ["math/bits.divideError", "math/bits.overflowError"], apart := false, narrowed := true }
def WideBackUptoSaid : Prop := wideBackUptoRow.holds Try.pinned (OpenSpec.upto wideBackSpec)

/-- 'weighbridgelaw03.OnesumSums', WHERE WHAT IT READS IS OF BULK AT MOST 1048576: true; the input reads as it did. -/
def onesumSumsUptoRow : OpenClaim := { program := "ytgpdghibkkgonaa", sum := "f740a6e0decc53dfe86df280573d3c387f81f6bb08390d86a93e0eba4cc14ae2", func := "weighbridge/weighbridgelaw03.OnesumSums", spec := "onesumSums", unfollowed := true, recurses := true, apart := false, narrowed := true }
def OnesumSumsUptoSaid : Prop := onesumSumsUptoRow.holds Try.pinned (OpenSpec.upto onesumSumsSpec)

/-- 'weighbridgelaw03.OnesumJoins', WHERE WHAT IT READS IS OF BULK AT MOST 1048576: true; the input reads as it did. -/
def onesumJoinsUptoRow : OpenClaim := { program := "ytgpdghibkkgonaa", sum := "f740a6e0decc53dfe86df280573d3c387f81f6bb08390d86a93e0eba4cc14ae2", func := "weighbridge/weighbridgelaw03.OnesumJoins", spec := "onesumJoins", unfollowed := true, recurses := true, apart := false, narrowed := true }
def OnesumJoinsUptoSaid : Prop := onesumJoinsUptoRow.holds Try.pinned (OpenSpec.upto onesumJoinsSpec)

/-- 'weighbridgelaw03.OnesumFills', WHERE WHAT IT READS IS OF BULK AT MOST 1048576: true; the input reads as it did. -/
def onesumFillsUptoRow : OpenClaim := { program := "ytgpdghibkkgonaa", sum := "f740a6e0decc53dfe86df280573d3c387f81f6bb08390d86a93e0eba4cc14ae2", func := "weighbridge/weighbridgelaw03.OnesumFills", spec := "onesumFills", unfollowed := true, recurses := true, apart := false, narrowed := true }
def OnesumFillsUptoSaid : Prop := onesumFillsUptoRow.holds Try.pinned (OpenSpec.upto onesumFillsSpec)

/-- 'weighbridgelaw03.OnesumFinds', WHERE WHAT IT READS IS OF BULK AT MOST 1048576: true; the input reads as it did. -/
def onesumFindsUptoRow : OpenClaim := { program := "ytgpdghibkkgonaa", sum := "f740a6e0decc53dfe86df280573d3c387f81f6bb08390d86a93e0eba4cc14ae2", func := "weighbridge/weighbridgelaw03.OnesumFinds", spec := "onesumFinds", unfollowed := true, recurses := true, apart := false, narrowed := true }
def OnesumFindsUptoSaid : Prop := onesumFindsUptoRow.holds Try.pinned (OpenSpec.upto onesumFindsSpec)

/-- 'weighbridgelaw04.AdjustWords', WHERE WHAT IT READS IS OF BULK AT MOST 1048576: true; the input reads as it did. -/
def adjustWordsUptoRow : OpenClaim := { program := "ytgpdghibkkgonaa", sum := "f740a6e0decc53dfe86df280573d3c387f81f6bb08390d86a93e0eba4cc14ae2", func := "weighbridge/weighbridgelaw04.AdjustWords", spec := "adjustWords", unfollowed := true, recurses := true, apart := false, narrowed := true }
def AdjustWordsUptoSaid : Prop := adjustWordsUptoRow.holds Try.pinned (OpenSpec.upto adjustWordsSpec)

/-- 'weighbridgelaw04.AdjustAts', WHERE WHAT IT READS IS OF BULK AT MOST 1048576: true; the input reads as it did. -/
def adjustAtsUptoRow : OpenClaim := { program := "ytgpdghibkkgonaa", sum := "f740a6e0decc53dfe86df280573d3c387f81f6bb08390d86a93e0eba4cc14ae2", func := "weighbridge/weighbridgelaw04.AdjustAts", spec := "adjustAts", unfollowed := true, recurses := true, apart := false, narrowed := true }
def AdjustAtsUptoSaid : Prop := adjustAtsUptoRow.holds Try.pinned (OpenSpec.upto adjustAtsSpec)

/-- 'weighbridgelaw04.AdjustFresh', WHERE WHAT IT READS IS OF BULK AT MOST 1048576: true; the input reads as it did. -/
def adjustFreshUptoRow : OpenClaim := { program := "ytgpdghibkkgonaa", sum := "f740a6e0decc53dfe86df280573d3c387f81f6bb08390d86a93e0eba4cc14ae2", func := "weighbridge/weighbridgelaw04.AdjustFresh", spec := "adjustFresh", unfollowed := true, recurses := true, apart := false, narrowed := true }
def AdjustFreshUptoSaid : Prop := adjustFreshUptoRow.holds Try.pinned (OpenSpec.upto adjustFreshSpec)

/-- 'weighbridgelaw04.AdjustBack', WHERE WHAT IT READS IS OF BULK AT MOST 1048576: true; the input reads as it did. -/
def adjustBackUptoRow : OpenClaim := { program := "ytgpdghibkkgonaa", sum := "f740a6e0decc53dfe86df280573d3c387f81f6bb08390d86a93e0eba4cc14ae2", func := "weighbridge/weighbridgelaw04.AdjustBack", spec := "adjustBack", unfollowed := true, recurses := true, apart := false, narrowed := true }
def AdjustBackUptoSaid : Prop := adjustBackUptoRow.holds Try.pinned (OpenSpec.upto adjustBackSpec)

/-- 'weighbridgetop.WholeNumbers', WHERE WHAT IT READS IS OF BULK AT MOST 1048576: true; the input reads as it did. -/
def wholeNumbersUptoRow : OpenClaim := { program := "ytgpdghibkkgonaa", sum := "f740a6e0decc53dfe86df280573d3c387f81f6bb08390d86a93e0eba4cc14ae2", func := "weighbridge/weighbridgetop.WholeNumbers", spec := "wholeNumbers", inPlace := ["math/bits.Add64"], unfollowed := true, recurses := true, apart := false, narrowed := true }
def WholeNumbersUptoSaid : Prop := wholeNumbersUptoRow.holds Try.pinned (OpenSpec.upto wholeNumbersSpec)

/-- 'weighbridgetop.WholeSums', WHERE WHAT IT READS IS OF BULK AT MOST 1048576: true; the input reads as it did. -/
def wholeSumsUptoRow : OpenClaim := { program := "ytgpdghibkkgonaa", sum := "f740a6e0decc53dfe86df280573d3c387f81f6bb08390d86a93e0eba4cc14ae2", func := "weighbridge/weighbridgetop.WholeSums", spec := "wholeSums", unfollowed := true, recurses := true, apart := false, narrowed := true }
def WholeSumsUptoSaid : Prop := wholeSumsUptoRow.holds Try.pinned (OpenSpec.upto wholeSumsSpec)

end Rows
end Go.Proofs.Ytgpdghibkkgonaa
