/-
  DERIVED. GIVEN WITH THE SEED: THE CARDS: each row of YtgpoiddmffclmaaDoorRows.lean that lists a variable, with what it lists TIED to the program's text (the seventh form; the later family's looks); each row that meets fmt, with fmt's text TOLD by the authors' own Lean function (tested against real Go, not proved from fmt's source: count such statements apart). THE CARD IS WHAT COUNTS. Prove the row's statement (the work); the ties are given (YtgpoiddmffclmaaDoorTie.lean); close each card by the builder's one call (the guide's Derived/Test/ToyasCard.lean, 'card_holds'). Laid BY PROGRAM, IN A SANDBOX (cutbox-door.mjs). By AI agents, Wed Nov 11 2026. No macro, syntax, notation, axiom, sorry.
-/
import Derived.Test.YtgpoiddmffclmaaDoorRows
import GoSem.ClaimSeven
namespace Go.Proofs.YtgpoiddmffclmaaDoor
namespace Rows

/-- THE TIED CARD OF 'weighbridgelaw08.SpanPieces'. -/
def spanPiecesCard : Claim7 := { stood := { row := spanPiecesRow, standIns := [], harness := (true, "e1d2b555737d9570746216e915b9ca33585d1c47a523d976a2697d544b18edce"), looks := true }, kinds := [], alts := [], laidByText := true, laidKinds := [.data, .data, .data, .sentinel, .sentinel], laidTests := true, laidLooks := .later }
def SpanPiecesCardSaid : Prop := Claim7.holds Tryd.pinned (.plain (OpenSpec.ofChange spanPiecesSpec)) spanPiecesCard

/-- THE SECOND FORM's CARD OF 'weighbridgelaw08.SpanPieces'. -/
def spanPiecesUptoCard : Claim7 := { stood := { row := spanPiecesUptoRow, standIns := [], harness := (true, "e1d2b555737d9570746216e915b9ca33585d1c47a523d976a2697d544b18edce"), looks := true }, kinds := [], alts := [], laidByText := true, laidKinds := [.data, .data, .data, .sentinel, .sentinel], laidTests := true, laidLooks := .later }
def SpanPiecesUptoCardSaid : Prop := Claim7.holds Tryd.pinned (.plain (OpenSpec.upto spanPiecesSpec)) spanPiecesUptoCard
end Rows
end Go.Proofs.YtgpoiddmffclmaaDoor
