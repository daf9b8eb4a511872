/-
  DERIVED. GIVEN WITH THE SEED: THE CARDS: each row of YtnofalgcpgheoaaDoorRows.lean that lists a variable, with what it lists TIED to the program's text (the seventh form; the later family's looks); each row that meets fmt, with fmt's text TOLD by the authors' own Lean function (tested against real Go, not proved from fmt's source: count such statements apart). THE CARD IS WHAT COUNTS. Prove the row's statement (the work); the ties are given (YtnofalgcpgheoaaDoorTie.lean); close each card by the builder's one call (the guide's Derived/Test/ToyasCard.lean, 'card_holds'). Laid BY PROGRAM, IN A SANDBOX (cutbox-door.mjs). By AI agents, Wed Nov 11 2026. No macro, syntax, notation, axiom, sorry.
-/
import Derived.Test.YtnofalgcpgheoaaDoorRows
import GoSem.ClaimSeven
namespace Go.Proofs.YtnofalgcpgheoaaDoor
namespace Rows

/-- THE TIED CARD OF 'weighbridgetop.WholeService'. -/
def wholeServiceCard : Claim7 := { stood := { row := wholeServiceRow, standIns := [], harness := (true, "7f54fcf304ecfbebe9c55769d42e2ee85237635b0d715cabfc6fe2eaae3301f1"), looks := true }, kinds := [], alts := [], laidByText := true, laidKinds := [.data, .data, .data, .sentinel, .sentinel], laidTests := true, laidLooks := .later }
def WholeServiceCardSaid : Prop := Claim7.holds Tryd.pinned (.plain (OpenSpec.ofChange wholeServiceSpec)) wholeServiceCard

/-- THE SECOND FORM's CARD OF 'weighbridgetop.WholeService'. -/
def wholeServiceUptoCard : Claim7 := { stood := { row := wholeServiceUptoRow, standIns := [], harness := (true, "7f54fcf304ecfbebe9c55769d42e2ee85237635b0d715cabfc6fe2eaae3301f1"), looks := true }, kinds := [], alts := [], laidByText := true, laidKinds := [.data, .data, .data, .sentinel, .sentinel], laidTests := true, laidLooks := .later }
def WholeServiceUptoCardSaid : Prop := Claim7.holds Tryd.pinned (.plain (OpenSpec.upto wholeServiceSpec)) wholeServiceUptoCard
end Rows
end Go.Proofs.YtnofalgcpgheoaaDoor
