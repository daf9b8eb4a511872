/-
  DERIVED. GIVEN WITH THE SEED: THE CARDS: each row of YtaicmadeobglfaaDoorRows.lean that lists a variable, with what it lists TIED to the program's text (the seventh form; the later family's looks); each row that meets fmt, with fmt's text TOLD by the authors' own Lean function (tested against real Go, not proved from fmt's source: count such statements apart). THE CARD IS WHAT COUNTS. Prove the row's statement (the work); the ties are given (YtaicmadeobglfaaDoorTie.lean); close each card by the builder's one call (the guide's Derived/Test/ToyasCard.lean, 'card_holds'). Laid BY PROGRAM, IN A SANDBOX (cutbox-door.mjs). By AI agents, Wed Nov 11 2026. No macro, syntax, notation, axiom, sorry.
-/
import Derived.Test.YtaicmadeobglfaaDoorRows
import GoSem.ClaimSeven
namespace Go.Proofs.YtaicmadeobglfaaDoor
namespace Rows

/-- THE TIED CARD OF 'weighbridgetop.WholeNets'. -/
def wholeNetsCard : Claim7 := { stood := { row := wholeNetsRow, standIns := [], harness := (true, "4ce70076b95e0e9b449e2447837d87e9ad01a6662c839de41c721823db316131"), looks := true }, kinds := [], alts := [], laidByText := true, laidKinds := [.data, .data, .data, .data, .sentinel, .sentinel, .pinned], laidTests := true, laidLooks := .later }
def WholeNetsCardSaid : Prop := Claim7.holds Tryd.pinned (.plain (OpenSpec.ofChange wholeNetsSpec)) wholeNetsCard

/-- THE SECOND FORM's CARD OF 'weighbridgetop.WholeNets'. -/
def wholeNetsUptoCard : Claim7 := { stood := { row := wholeNetsUptoRow, standIns := [], harness := (true, "4ce70076b95e0e9b449e2447837d87e9ad01a6662c839de41c721823db316131"), looks := true }, kinds := [], alts := [], laidByText := true, laidKinds := [.data, .data, .data, .data, .sentinel, .sentinel, .pinned], laidTests := true, laidLooks := .later }
def WholeNetsUptoCardSaid : Prop := Claim7.holds Tryd.pinned (.plain (OpenSpec.upto wholeNetsSpec)) wholeNetsUptoCard
end Rows
end Go.Proofs.YtaicmadeobglfaaDoor
