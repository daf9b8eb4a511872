/-
  DERIVED. GIVEN WITH THE SEED: THE CARDS: each row of YtngflfpannmjhaaGreatDoorRows.lean that lists a variable, with what it lists TIED to the program's text (the seventh form; the later family's looks); each row that meets fmt, with fmt's text TOLD by the authors' own Lean function (tested against real Go, not proved from fmt's source: count such statements apart). THE CARD IS WHAT COUNTS. Prove the row's statement (the work); the ties are given (YtngflfpannmjhaaGreatDoorTie.lean); close each card by the builder's one call (the guide's Derived/Test/ToyasCard.lean, 'card_holds'). Laid BY PROGRAM, IN A SANDBOX (cutbox-door.mjs). By AI agents, Wed Nov 11 2026. No macro, syntax, notation, axiom, sorry.
-/
import Derived.Test.YtngflfpannmjhaaGreatDoorRows
import GoSem.ClaimSeven
namespace Go.Proofs.YtngflfpannmjhaaGreatDoor
namespace Rows

/-- THE TIED CARD OF 'weighbridgelaw08.SpanUnions'. -/
def spanUnionsCard : Claim7 := { stood := { row := spanUnionsRow, standIns := [], harness := (true, "368045cf4bfb58a4cbe94f7de49a1f8b97130cc606a14baed68f31e0e7debac0"), looks := true }, kinds := [], alts := [], laidByText := true, laidKinds := [.data, .data, .data, .sentinel, .sentinel], laidTests := true, laidLooks := .later }
def SpanUnionsCardSaid : Prop := Claim7.holds Tryz.pinned (.plain (OpenSpec.ofChange spanUnionsSpec)) spanUnionsCard

/-- THE TIED CARD OF 'weighbridgelaw08.SpanTexts'. -/
def spanTextsCard : Claim7 := { stood := { row := spanTextsRow, standIns := [], harness := (true, "368045cf4bfb58a4cbe94f7de49a1f8b97130cc606a14baed68f31e0e7debac0"), looks := true }, kinds := [], alts := [], laidByText := true, laidKinds := [.data, .data, .data, .sentinel, .sentinel], laidTests := true, laidLooks := .later }
def SpanTextsCardSaid : Prop := Claim7.holds Tryz.pinned (.plain (OpenSpec.ofChange spanTextsSpec)) spanTextsCard

/-- THE TIED CARD OF 'weighbridgelaw08.SpanRests'. -/
def spanRestsCard : Claim7 := { stood := { row := spanRestsRow, standIns := [], harness := (true, "368045cf4bfb58a4cbe94f7de49a1f8b97130cc606a14baed68f31e0e7debac0"), looks := true }, kinds := [], alts := [], laidByText := true, laidKinds := [.data, .data, .data, .sentinel, .sentinel], laidTests := true, laidLooks := .later }
def SpanRestsCardSaid : Prop := Claim7.holds Tryz.pinned (.plain (OpenSpec.ofChange spanRestsSpec)) spanRestsCard

/-- THE SECOND FORM's CARD OF 'weighbridgelaw08.SpanUnions'. -/
def spanUnionsUptoCard : Claim7 := { stood := { row := spanUnionsUptoRow, standIns := [], harness := (true, "368045cf4bfb58a4cbe94f7de49a1f8b97130cc606a14baed68f31e0e7debac0"), looks := true }, kinds := [], alts := [], laidByText := true, laidKinds := [.data, .data, .data, .sentinel, .sentinel], laidTests := true, laidLooks := .later }
def SpanUnionsUptoCardSaid : Prop := Claim7.holds Tryz.pinned (.plain (OpenSpec.upto spanUnionsSpec)) spanUnionsUptoCard

/-- THE SECOND FORM's CARD OF 'weighbridgelaw08.SpanTexts'. -/
def spanTextsUptoCard : Claim7 := { stood := { row := spanTextsUptoRow, standIns := [], harness := (true, "368045cf4bfb58a4cbe94f7de49a1f8b97130cc606a14baed68f31e0e7debac0"), looks := true }, kinds := [], alts := [], laidByText := true, laidKinds := [.data, .data, .data, .sentinel, .sentinel], laidTests := true, laidLooks := .later }
def SpanTextsUptoCardSaid : Prop := Claim7.holds Tryz.pinned (.plain (OpenSpec.upto spanTextsSpec)) spanTextsUptoCard

/-- THE SECOND FORM's CARD OF 'weighbridgelaw08.SpanRests'. -/
def spanRestsUptoCard : Claim7 := { stood := { row := spanRestsUptoRow, standIns := [], harness := (true, "368045cf4bfb58a4cbe94f7de49a1f8b97130cc606a14baed68f31e0e7debac0"), looks := true }, kinds := [], alts := [], laidByText := true, laidKinds := [.data, .data, .data, .sentinel, .sentinel], laidTests := true, laidLooks := .later }
def SpanRestsUptoCardSaid : Prop := Claim7.holds Tryz.pinned (.plain (OpenSpec.upto spanRestsSpec)) spanRestsUptoCard
end Rows
end Go.Proofs.YtngflfpannmjhaaGreatDoor
