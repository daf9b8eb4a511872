/-
  DERIVED. GIVEN WITH THE SEED: THE CARDS: each row of YtdeoeikpooonlaaDoorRows.lean that lists a variable, with what it lists TIED to the program's text (the seventh form; the later family's looks); each row that meets fmt, with fmt's text TOLD by the authors' own Lean function (tested against real Go, not proved from fmt's source: count such statements apart). THE CARD IS WHAT COUNTS. Prove the row's statement (the work); the ties are given (YtdeoeikpooonlaaDoorTie.lean); close each card by the builder's one call (the guide's Derived/Test/ToyasCard.lean, 'card_holds'). Laid BY PROGRAM, IN A SANDBOX (cutbox-door.mjs). By AI agents, Wed Nov 11 2026. No macro, syntax, notation, axiom, sorry.
-/
import Derived.Test.YtdeoeikpooonlaaDoorRows
import GoSem.ClaimSeven
namespace Go.Proofs.YtdeoeikpooonlaaDoor
namespace Rows

/-- THE TIED CARD OF 'weighbridgelaw09.PointBytes'. -/
def pointBytesCard : Claim7 := { stood := { row := pointBytesRow, standIns := [], harness := (true, "f3ea3d625e539d85870ba0914255b5baecae73d5edd2596ab95c0a2560989060"), looks := true }, kinds := [], alts := [], laidByText := true, laidKinds := [.data, .data, .data, .sentinel, .sentinel], laidTests := true, laidLooks := .later }
def PointBytesCardSaid : Prop := Claim7.holds Tryd.pinned (.plain (OpenSpec.ofChange pointBytesSpec)) pointBytesCard

/-- THE TIED CARD OF 'weighbridgelaw09.PointNames'. -/
def pointNamesCard : Claim7 := { stood := { row := pointNamesRow, standIns := [], harness := (true, "f3ea3d625e539d85870ba0914255b5baecae73d5edd2596ab95c0a2560989060"), looks := true }, kinds := [], alts := [], laidByText := true, laidKinds := [.data, .data, .data, .sentinel, .sentinel], laidTests := true, laidLooks := .later }
def PointNamesCardSaid : Prop := Claim7.holds Tryd.pinned (.plain (OpenSpec.ofChange pointNamesSpec)) pointNamesCard

/-- THE TIED CARD OF 'weighbridgelaw09.PointBack'. -/
def pointBackCard : Claim7 := { stood := { row := pointBackRow, standIns := [], harness := (true, "f3ea3d625e539d85870ba0914255b5baecae73d5edd2596ab95c0a2560989060"), looks := true }, kinds := [], alts := [], laidByText := true, laidKinds := [.data, .data, .data, .sentinel, .sentinel], laidTests := true, laidLooks := .later }
def PointBackCardSaid : Prop := Claim7.holds Tryd.pinned (.plain (OpenSpec.ofChange pointBackSpec)) pointBackCard

/-- THE TIED CARD OF 'weighbridgelaw06.ColonsPrints'. -/
def colonsPrintsCard : Claim7 := { stood := { row := colonsPrintsRow, standIns := [], harness := (true, "f3ea3d625e539d85870ba0914255b5baecae73d5edd2596ab95c0a2560989060"), looks := true }, kinds := [], alts := [], laidByText := true, laidKinds := [.data, .data, .data, .data, .sentinel, .sentinel, .pinned], laidTests := true, laidLooks := .later }
def ColonsPrintsCardSaid : Prop := Claim7.holds Tryd.pinned (.plain (OpenSpec.ofChange colonsPrintsSpec)) colonsPrintsCard

/-- THE TIED CARD OF 'weighbridgelaw06.ColonsBack'. -/
def colonsBackCard : Claim7 := { stood := { row := colonsBackRow, standIns := [], harness := (true, "f3ea3d625e539d85870ba0914255b5baecae73d5edd2596ab95c0a2560989060"), looks := true }, kinds := [], alts := [], laidByText := true, laidKinds := [.data, .data, .data, .data, .sentinel, .sentinel, .pinned], laidTests := true, laidLooks := .later }
def ColonsBackCardSaid : Prop := Claim7.holds Tryd.pinned (.plain (OpenSpec.ofChange colonsBackSpec)) colonsBackCard

/-- THE TIED CARD OF 'weighbridgelaw07.PrefixChecks'. -/
def prefixChecksCard : Claim7 := { stood := { row := prefixChecksRow, standIns := [], harness := (true, "f3ea3d625e539d85870ba0914255b5baecae73d5edd2596ab95c0a2560989060"), looks := true }, kinds := [], alts := [], laidByText := true, laidKinds := [.data, .data, .data, .data, .sentinel, .sentinel, .pinned], laidTests := true, laidLooks := .later }
def PrefixChecksCardSaid : Prop := Claim7.holds Tryd.pinned (.plain (OpenSpec.ofChange prefixChecksSpec)) prefixChecksCard

/-- THE TIED CARD OF 'weighbridgelaw07.PrefixHas'. -/
def prefixHasCard : Claim7 := { stood := { row := prefixHasRow, standIns := [], harness := (true, "f3ea3d625e539d85870ba0914255b5baecae73d5edd2596ab95c0a2560989060"), looks := true }, kinds := [], alts := [], laidByText := true, laidKinds := [.data, .data, .data, .data, .sentinel, .sentinel, .pinned], laidTests := true, laidLooks := .later }
def PrefixHasCardSaid : Prop := Claim7.holds Tryd.pinned (.plain (OpenSpec.ofChange prefixHasSpec)) prefixHasCard

/-- THE TIED CARD OF 'weighbridgetop.WholeService'. -/
def wholeServiceCard : Claim7 := { stood := { row := wholeServiceRow, standIns := [], harness := (true, "f3ea3d625e539d85870ba0914255b5baecae73d5edd2596ab95c0a2560989060"), looks := true }, kinds := [], alts := [], laidByText := true, laidKinds := [.data, .data, .data, .sentinel, .sentinel], laidTests := true, laidLooks := .later }
def WholeServiceCardSaid : Prop := Claim7.holds Tryd.pinned (.plain (OpenSpec.ofChange wholeServiceSpec)) wholeServiceCard

/-- THE SECOND FORM's CARD OF 'weighbridgelaw09.PointBytes'. -/
def pointBytesUptoCard : Claim7 := { stood := { row := pointBytesUptoRow, standIns := [], harness := (true, "f3ea3d625e539d85870ba0914255b5baecae73d5edd2596ab95c0a2560989060"), looks := true }, kinds := [], alts := [], laidByText := true, laidKinds := [.data, .data, .data, .sentinel, .sentinel], laidTests := true, laidLooks := .later }
def PointBytesUptoCardSaid : Prop := Claim7.holds Tryd.pinned (.plain (OpenSpec.upto pointBytesSpec)) pointBytesUptoCard

/-- THE SECOND FORM's CARD OF 'weighbridgelaw09.PointNames'. -/
def pointNamesUptoCard : Claim7 := { stood := { row := pointNamesUptoRow, standIns := [], harness := (true, "f3ea3d625e539d85870ba0914255b5baecae73d5edd2596ab95c0a2560989060"), looks := true }, kinds := [], alts := [], laidByText := true, laidKinds := [.data, .data, .data, .sentinel, .sentinel], laidTests := true, laidLooks := .later }
def PointNamesUptoCardSaid : Prop := Claim7.holds Tryd.pinned (.plain (OpenSpec.upto pointNamesSpec)) pointNamesUptoCard

/-- THE SECOND FORM's CARD OF 'weighbridgelaw09.PointBack'. -/
def pointBackUptoCard : Claim7 := { stood := { row := pointBackUptoRow, standIns := [], harness := (true, "f3ea3d625e539d85870ba0914255b5baecae73d5edd2596ab95c0a2560989060"), looks := true }, kinds := [], alts := [], laidByText := true, laidKinds := [.data, .data, .data, .sentinel, .sentinel], laidTests := true, laidLooks := .later }
def PointBackUptoCardSaid : Prop := Claim7.holds Tryd.pinned (.plain (OpenSpec.upto pointBackSpec)) pointBackUptoCard

/-- THE SECOND FORM's CARD OF 'weighbridgelaw06.ColonsPrints'. -/
def colonsPrintsUptoCard : Claim7 := { stood := { row := colonsPrintsUptoRow, standIns := [], harness := (true, "f3ea3d625e539d85870ba0914255b5baecae73d5edd2596ab95c0a2560989060"), looks := true }, kinds := [], alts := [], laidByText := true, laidKinds := [.data, .data, .data, .data, .sentinel, .sentinel, .pinned], laidTests := true, laidLooks := .later }
def ColonsPrintsUptoCardSaid : Prop := Claim7.holds Tryd.pinned (.plain (OpenSpec.upto colonsPrintsSpec)) colonsPrintsUptoCard

/-- THE SECOND FORM's CARD OF 'weighbridgelaw06.ColonsBack'. -/
def colonsBackUptoCard : Claim7 := { stood := { row := colonsBackUptoRow, standIns := [], harness := (true, "f3ea3d625e539d85870ba0914255b5baecae73d5edd2596ab95c0a2560989060"), looks := true }, kinds := [], alts := [], laidByText := true, laidKinds := [.data, .data, .data, .data, .sentinel, .sentinel, .pinned], laidTests := true, laidLooks := .later }
def ColonsBackUptoCardSaid : Prop := Claim7.holds Tryd.pinned (.plain (OpenSpec.upto colonsBackSpec)) colonsBackUptoCard

/-- THE SECOND FORM's CARD OF 'weighbridgelaw07.PrefixChecks'. -/
def prefixChecksUptoCard : Claim7 := { stood := { row := prefixChecksUptoRow, standIns := [], harness := (true, "f3ea3d625e539d85870ba0914255b5baecae73d5edd2596ab95c0a2560989060"), looks := true }, kinds := [], alts := [], laidByText := true, laidKinds := [.data, .data, .data, .data, .sentinel, .sentinel, .pinned], laidTests := true, laidLooks := .later }
def PrefixChecksUptoCardSaid : Prop := Claim7.holds Tryd.pinned (.plain (OpenSpec.upto prefixChecksSpec)) prefixChecksUptoCard

/-- THE SECOND FORM's CARD OF 'weighbridgelaw07.PrefixHas'. -/
def prefixHasUptoCard : Claim7 := { stood := { row := prefixHasUptoRow, standIns := [], harness := (true, "f3ea3d625e539d85870ba0914255b5baecae73d5edd2596ab95c0a2560989060"), looks := true }, kinds := [], alts := [], laidByText := true, laidKinds := [.data, .data, .data, .data, .sentinel, .sentinel, .pinned], laidTests := true, laidLooks := .later }
def PrefixHasUptoCardSaid : Prop := Claim7.holds Tryd.pinned (.plain (OpenSpec.upto prefixHasSpec)) prefixHasUptoCard

/-- THE SECOND FORM's CARD OF 'weighbridgetop.WholeService'. -/
def wholeServiceUptoCard : Claim7 := { stood := { row := wholeServiceUptoRow, standIns := [], harness := (true, "f3ea3d625e539d85870ba0914255b5baecae73d5edd2596ab95c0a2560989060"), looks := true }, kinds := [], alts := [], laidByText := true, laidKinds := [.data, .data, .data, .sentinel, .sentinel], laidTests := true, laidLooks := .later }
def WholeServiceUptoCardSaid : Prop := Claim7.holds Tryd.pinned (.plain (OpenSpec.upto wholeServiceSpec)) wholeServiceUptoCard
end Rows
end Go.Proofs.YtdeoeikpooonlaaDoor
