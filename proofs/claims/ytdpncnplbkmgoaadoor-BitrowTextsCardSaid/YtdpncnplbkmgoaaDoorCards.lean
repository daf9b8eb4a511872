/-
  DERIVED. GIVEN WITH THE SEED: THE CARDS: each row of YtdpncnplbkmgoaaDoorRows.lean that lists a variable, with what it lists TIED to the program's text (the seventh form; the later family's looks); each row that meets fmt, with fmt's text TOLD by the authors' own Lean function (tested against real Go, not proved from fmt's source: count such statements apart). THE CARD IS WHAT COUNTS. Prove the row's statement (the work); the ties are given (YtdpncnplbkmgoaaDoorTie.lean); close each card by the builder's one call (the guide's Derived/Test/ToyasCard.lean, 'card_holds'). Laid BY PROGRAM, IN A SANDBOX (cutbox-door.mjs). By AI agents, Wed Nov 11 2026. No macro, syntax, notation, axiom, sorry.
-/
import Derived.Test.YtdpncnplbkmgoaaDoorRows
import GoSem.ClaimSeven
namespace Go.Proofs.YtdpncnplbkmgoaaDoor
namespace Rows

/-- THE TIED CARD OF 'weighbridgelaw18.BitrowSets'. -/
def bitrowSetsCard : Claim7 := { stood := { row := bitrowSetsRow, standIns := [], harness := (true, "190c9f21a0ff225277b48753818c005a37d4952dd6f4e386406b9cb962ac01fe"), looks := false }, kinds := [], alts := [], laidByText := true, laidKinds := [.data], laidTests := true, laidLooks := .later }
def BitrowSetsCardSaid : Prop := Claim7.holds Tryd.pinned (.plain (OpenSpec.ofChange bitrowSetsSpec)) bitrowSetsCard

/-- THE TIED CARD OF 'weighbridgelaw18.BitrowJoins'. -/
def bitrowJoinsCard : Claim7 := { stood := { row := bitrowJoinsRow, standIns := [], harness := (true, "190c9f21a0ff225277b48753818c005a37d4952dd6f4e386406b9cb962ac01fe"), looks := false }, kinds := [], alts := [], laidByText := true, laidKinds := [.data], laidTests := true, laidLooks := .later }
def BitrowJoinsCardSaid : Prop := Claim7.holds Tryd.pinned (.plain (OpenSpec.ofChange bitrowJoinsSpec)) bitrowJoinsCard

/-- THE TIED CARD OF 'weighbridgelaw18.BitrowBack'. -/
def bitrowBackCard : Claim7 := { stood := { row := bitrowBackRow, standIns := [], harness := (true, "190c9f21a0ff225277b48753818c005a37d4952dd6f4e386406b9cb962ac01fe"), looks := false }, kinds := [], alts := [], laidByText := true, laidKinds := [.data], laidTests := true, laidLooks := .later }
def BitrowBackCardSaid : Prop := Claim7.holds Tryd.pinned (.plain (OpenSpec.ofChange bitrowBackSpec)) bitrowBackCard

/-- THE TIED CARD OF 'weighbridgelaw18.BitrowTexts'. -/
def bitrowTextsCard : Claim7 := { stood := { row := bitrowTextsRow, standIns := [], harness := (true, "190c9f21a0ff225277b48753818c005a37d4952dd6f4e386406b9cb962ac01fe"), looks := false }, kinds := [], alts := [], laidByText := true, laidKinds := [.data], laidTests := true, laidLooks := .later }
def BitrowTextsCardSaid : Prop := Claim7.holds Tryd.pinned (.plain (OpenSpec.ofChange bitrowTextsSpec)) bitrowTextsCard

/-- THE SECOND FORM's CARD OF 'weighbridgelaw18.BitrowSets'. -/
def bitrowSetsUptoCard : Claim7 := { stood := { row := bitrowSetsUptoRow, standIns := [], harness := (true, "190c9f21a0ff225277b48753818c005a37d4952dd6f4e386406b9cb962ac01fe"), looks := false }, kinds := [], alts := [], laidByText := true, laidKinds := [.data], laidTests := true, laidLooks := .later }
def BitrowSetsUptoCardSaid : Prop := Claim7.holds Tryd.pinned (.plain (OpenSpec.upto bitrowSetsSpec)) bitrowSetsUptoCard

/-- THE SECOND FORM's CARD OF 'weighbridgelaw18.BitrowJoins'. -/
def bitrowJoinsUptoCard : Claim7 := { stood := { row := bitrowJoinsUptoRow, standIns := [], harness := (true, "190c9f21a0ff225277b48753818c005a37d4952dd6f4e386406b9cb962ac01fe"), looks := false }, kinds := [], alts := [], laidByText := true, laidKinds := [.data], laidTests := true, laidLooks := .later }
def BitrowJoinsUptoCardSaid : Prop := Claim7.holds Tryd.pinned (.plain (OpenSpec.upto bitrowJoinsSpec)) bitrowJoinsUptoCard

/-- THE SECOND FORM's CARD OF 'weighbridgelaw18.BitrowBack'. -/
def bitrowBackUptoCard : Claim7 := { stood := { row := bitrowBackUptoRow, standIns := [], harness := (true, "190c9f21a0ff225277b48753818c005a37d4952dd6f4e386406b9cb962ac01fe"), looks := false }, kinds := [], alts := [], laidByText := true, laidKinds := [.data], laidTests := true, laidLooks := .later }
def BitrowBackUptoCardSaid : Prop := Claim7.holds Tryd.pinned (.plain (OpenSpec.upto bitrowBackSpec)) bitrowBackUptoCard

/-- THE SECOND FORM's CARD OF 'weighbridgelaw18.BitrowTexts'. -/
def bitrowTextsUptoCard : Claim7 := { stood := { row := bitrowTextsUptoRow, standIns := [], harness := (true, "190c9f21a0ff225277b48753818c005a37d4952dd6f4e386406b9cb962ac01fe"), looks := false }, kinds := [], alts := [], laidByText := true, laidKinds := [.data], laidTests := true, laidLooks := .later }
def BitrowTextsUptoCardSaid : Prop := Claim7.holds Tryd.pinned (.plain (OpenSpec.upto bitrowTextsSpec)) bitrowTextsUptoCard
end Rows
end Go.Proofs.YtdpncnplbkmgoaaDoor
