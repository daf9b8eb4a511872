/-
  DERIVED. GIVEN WITH THE SEED: THE CARDS: each row of YtlkilkhnblmjaaaDoorRows.lean that lists a variable, with what it lists TIED to the program's text (the seventh form; the later family's looks); each row that meets fmt, with fmt's text TOLD by the authors' own Lean function (tested against real Go, not proved from fmt's source: count such statements apart). THE CARD IS WHAT COUNTS. Prove the row's statement (the work); the ties are given (YtlkilkhnblmjaaaDoorTie.lean); close each card by the builder's one call (the guide's Derived/Test/ToyasCard.lean, 'card_holds'). Laid BY PROGRAM, IN A SANDBOX (cutbox-door.mjs). By AI agents, Wed Nov 11 2026. No macro, syntax, notation, axiom, sorry.
-/
import Derived.Test.YtlkilkhnblmjaaaDoorRows
import GoSem.ClaimSeven
namespace Go.Proofs.YtlkilkhnblmjaaaDoor
namespace Rows

/-- THE TIED CARD OF 'weighbridgelaw07.PrefixChecks'. -/
def prefixChecksCard : Claim7 := { stood := { row := prefixChecksRow, standIns := [], harness := (true, "f26f7fa7fbaa519ddc9ce53685dd8c021f5eae9a018dffb9c7babcb1e2bb9b4f"), looks := true }, kinds := [], alts := [], laidByText := true, laidKinds := [.data, .data, .data, .data, .sentinel, .sentinel, .pinned], laidTests := true, laidLooks := .later }
def PrefixChecksCardSaid : Prop := Claim7.holds Tryd.pinned (.plain (OpenSpec.ofChange prefixChecksSpec)) prefixChecksCard

/-- THE TIED CARD OF 'weighbridgelaw07.PrefixHas'. -/
def prefixHasCard : Claim7 := { stood := { row := prefixHasRow, standIns := [], harness := (true, "f26f7fa7fbaa519ddc9ce53685dd8c021f5eae9a018dffb9c7babcb1e2bb9b4f"), looks := true }, kinds := [], alts := [], laidByText := true, laidKinds := [.data, .data, .data, .data, .sentinel, .sentinel, .pinned], laidTests := true, laidLooks := .later }
def PrefixHasCardSaid : Prop := Claim7.holds Tryd.pinned (.plain (OpenSpec.ofChange prefixHasSpec)) prefixHasCard

/-- THE TIED CARD OF 'weighbridgelaw07.PrefixBack'. -/
def prefixBackCard : Claim7 := { stood := { row := prefixBackRow, standIns := [], harness := (true, "f26f7fa7fbaa519ddc9ce53685dd8c021f5eae9a018dffb9c7babcb1e2bb9b4f"), looks := true }, kinds := [], alts := [], laidByText := true, laidKinds := [.data, .data, .data, .data, .sentinel, .sentinel, .pinned], laidTests := true, laidLooks := .later }
def PrefixBackCardSaid : Prop := Claim7.holds Tryd.pinned (.plain (OpenSpec.ofChange prefixBackSpec)) prefixBackCard

/-- THE SECOND FORM's CARD OF 'weighbridgelaw07.PrefixChecks'. -/
def prefixChecksUptoCard : Claim7 := { stood := { row := prefixChecksUptoRow, standIns := [], harness := (true, "f26f7fa7fbaa519ddc9ce53685dd8c021f5eae9a018dffb9c7babcb1e2bb9b4f"), looks := true }, kinds := [], alts := [], laidByText := true, laidKinds := [.data, .data, .data, .data, .sentinel, .sentinel, .pinned], laidTests := true, laidLooks := .later }
def PrefixChecksUptoCardSaid : Prop := Claim7.holds Tryd.pinned (.plain (OpenSpec.upto prefixChecksSpec)) prefixChecksUptoCard

/-- THE SECOND FORM's CARD OF 'weighbridgelaw07.PrefixHas'. -/
def prefixHasUptoCard : Claim7 := { stood := { row := prefixHasUptoRow, standIns := [], harness := (true, "f26f7fa7fbaa519ddc9ce53685dd8c021f5eae9a018dffb9c7babcb1e2bb9b4f"), looks := true }, kinds := [], alts := [], laidByText := true, laidKinds := [.data, .data, .data, .data, .sentinel, .sentinel, .pinned], laidTests := true, laidLooks := .later }
def PrefixHasUptoCardSaid : Prop := Claim7.holds Tryd.pinned (.plain (OpenSpec.upto prefixHasSpec)) prefixHasUptoCard

/-- THE SECOND FORM's CARD OF 'weighbridgelaw07.PrefixBack'. -/
def prefixBackUptoCard : Claim7 := { stood := { row := prefixBackUptoRow, standIns := [], harness := (true, "f26f7fa7fbaa519ddc9ce53685dd8c021f5eae9a018dffb9c7babcb1e2bb9b4f"), looks := true }, kinds := [], alts := [], laidByText := true, laidKinds := [.data, .data, .data, .data, .sentinel, .sentinel, .pinned], laidTests := true, laidLooks := .later }
def PrefixBackUptoCardSaid : Prop := Claim7.holds Tryd.pinned (.plain (OpenSpec.upto prefixBackSpec)) prefixBackUptoCard
end Rows
end Go.Proofs.YtlkilkhnblmjaaaDoor
