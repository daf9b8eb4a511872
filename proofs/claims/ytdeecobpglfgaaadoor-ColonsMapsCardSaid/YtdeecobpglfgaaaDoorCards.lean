/-
  DERIVED. GIVEN WITH THE SEED: THE CARDS: each row of YtdeecobpglfgaaaDoorRows.lean that lists a variable, with what it lists TIED to the program's text (the seventh form; the later family's looks); each row that meets fmt, with fmt's text TOLD by the authors' own Lean function (tested against real Go, not proved from fmt's source: count such statements apart). THE CARD IS WHAT COUNTS. Prove the row's statement (the work); the ties are given (YtdeecobpglfgaaaDoorTie.lean); close each card by the builder's one call (the guide's Derived/Test/ToyasCard.lean, 'card_holds'). Laid BY PROGRAM, IN A SANDBOX (cutbox-door.mjs). By AI agents, Wed Nov 11 2026. No macro, syntax, notation, axiom, sorry.
-/
import Derived.Test.YtdeecobpglfgaaaDoorRows
import GoSem.ClaimSeven
namespace Go.Proofs.YtdeecobpglfgaaaDoor
namespace Rows

/-- THE TIED CARD OF 'weighbridgelaw05.DottedPrints'. -/
def dottedPrintsCard : Claim7 := { stood := { row := dottedPrintsRow, standIns := [], harness := (true, "d273ba101bd455ac609e17afa7c0191b694b8284e52c295736ccea24cf4dbc7a"), looks := true }, kinds := [], alts := [], laidByText := true, laidKinds := [.data, .data, .data, .data, .sentinel, .sentinel, .pinned], laidTests := true, laidLooks := .later }
def DottedPrintsCardSaid : Prop := Claim7.holds Tryd.pinned (.plain (OpenSpec.ofChange dottedPrintsSpec)) dottedPrintsCard

/-- THE TIED CARD OF 'weighbridgelaw05.DottedParses'. -/
def dottedParsesCard : Claim7 := { stood := { row := dottedParsesRow, standIns := [], harness := (true, "d273ba101bd455ac609e17afa7c0191b694b8284e52c295736ccea24cf4dbc7a"), looks := true }, kinds := [], alts := [], laidByText := true, laidKinds := [.data, .data, .data, .data, .sentinel, .sentinel, .pinned], laidTests := true, laidLooks := .later }
def DottedParsesCardSaid : Prop := Claim7.holds Tryd.pinned (.plain (OpenSpec.ofChange dottedParsesSpec)) dottedParsesCard

/-- THE TIED CARD OF 'weighbridgelaw05.DottedBack'. -/
def dottedBackCard : Claim7 := { stood := { row := dottedBackRow, standIns := [], harness := (true, "d273ba101bd455ac609e17afa7c0191b694b8284e52c295736ccea24cf4dbc7a"), looks := true }, kinds := [], alts := [], laidByText := true, laidKinds := [.data, .data, .data, .data, .sentinel, .sentinel, .pinned], laidTests := true, laidLooks := .later }
def DottedBackCardSaid : Prop := Claim7.holds Tryd.pinned (.plain (OpenSpec.ofChange dottedBackSpec)) dottedBackCard

/-- THE TIED CARD OF 'weighbridgelaw05.DottedSorts'. -/
def dottedSortsCard : Claim7 := { stood := { row := dottedSortsRow, standIns := [], harness := (true, "d273ba101bd455ac609e17afa7c0191b694b8284e52c295736ccea24cf4dbc7a"), looks := true }, kinds := [], alts := [], laidByText := true, laidKinds := [.data, .data, .data, .data, .sentinel, .sentinel, .pinned], laidTests := true, laidLooks := .later }
def DottedSortsCardSaid : Prop := Claim7.holds Tryd.pinned (.plain (OpenSpec.ofChange dottedSortsSpec)) dottedSortsCard

/-- THE TIED CARD OF 'weighbridgelaw06.ColonsPrints'. -/
def colonsPrintsCard : Claim7 := { stood := { row := colonsPrintsRow, standIns := [], harness := (true, "d273ba101bd455ac609e17afa7c0191b694b8284e52c295736ccea24cf4dbc7a"), looks := true }, kinds := [], alts := [], laidByText := true, laidKinds := [.data, .data, .data, .data, .sentinel, .sentinel, .pinned], laidTests := true, laidLooks := .later }
def ColonsPrintsCardSaid : Prop := Claim7.holds Tryd.pinned (.plain (OpenSpec.ofChange colonsPrintsSpec)) colonsPrintsCard

/-- THE TIED CARD OF 'weighbridgelaw06.ColonsBack'. -/
def colonsBackCard : Claim7 := { stood := { row := colonsBackRow, standIns := [], harness := (true, "d273ba101bd455ac609e17afa7c0191b694b8284e52c295736ccea24cf4dbc7a"), looks := true }, kinds := [], alts := [], laidByText := true, laidKinds := [.data, .data, .data, .data, .sentinel, .sentinel, .pinned], laidTests := true, laidLooks := .later }
def ColonsBackCardSaid : Prop := Claim7.holds Tryd.pinned (.plain (OpenSpec.ofChange colonsBackSpec)) colonsBackCard

/-- THE TIED CARD OF 'weighbridgelaw06.ColonsMaps'. -/
def colonsMapsCard : Claim7 := { stood := { row := colonsMapsRow, standIns := [], harness := (true, "d273ba101bd455ac609e17afa7c0191b694b8284e52c295736ccea24cf4dbc7a"), looks := true }, kinds := [], alts := [], laidByText := true, laidKinds := [.data, .data, .data, .data, .sentinel, .sentinel, .pinned], laidTests := true, laidLooks := .later }
def ColonsMapsCardSaid : Prop := Claim7.holds Tryd.pinned (.plain (OpenSpec.ofChange colonsMapsSpec)) colonsMapsCard

/-- THE TIED CARD OF 'weighbridgetop.WholeAddrs'. -/
def wholeAddrsCard : Claim7 := { stood := { row := wholeAddrsRow, standIns := [], harness := (true, "d273ba101bd455ac609e17afa7c0191b694b8284e52c295736ccea24cf4dbc7a"), looks := true }, kinds := [], alts := [], laidByText := true, laidKinds := [.data, .data, .data, .data, .sentinel, .sentinel, .pinned], laidTests := true, laidLooks := .later }
def WholeAddrsCardSaid : Prop := Claim7.holds Tryd.pinned (.plain (OpenSpec.ofChange wholeAddrsSpec)) wholeAddrsCard

/-- THE TIED CARD OF 'weighbridgelaw08.SpanHas'. -/
def spanHasCard : Claim7 := { stood := { row := spanHasRow, standIns := [], harness := (true, "d273ba101bd455ac609e17afa7c0191b694b8284e52c295736ccea24cf4dbc7a"), looks := true }, kinds := [], alts := [], laidByText := true, laidKinds := [.data, .data, .data, .sentinel, .sentinel], laidTests := true, laidLooks := .later }
def SpanHasCardSaid : Prop := Claim7.holds Tryd.pinned (.plain (OpenSpec.ofChange spanHasSpec)) spanHasCard

/-- THE TIED CARD OF 'weighbridgelaw07.PrefixChecks'. -/
def prefixChecksCard : Claim7 := { stood := { row := prefixChecksRow, standIns := [], harness := (true, "d273ba101bd455ac609e17afa7c0191b694b8284e52c295736ccea24cf4dbc7a"), looks := true }, kinds := [], alts := [], laidByText := true, laidKinds := [.data, .data, .data, .data, .sentinel, .sentinel, .pinned], laidTests := true, laidLooks := .later }
def PrefixChecksCardSaid : Prop := Claim7.holds Tryd.pinned (.plain (OpenSpec.ofChange prefixChecksSpec)) prefixChecksCard

/-- THE SECOND FORM's CARD OF 'weighbridgelaw05.DottedPrints'. -/
def dottedPrintsUptoCard : Claim7 := { stood := { row := dottedPrintsUptoRow, standIns := [], harness := (true, "d273ba101bd455ac609e17afa7c0191b694b8284e52c295736ccea24cf4dbc7a"), looks := true }, kinds := [], alts := [], laidByText := true, laidKinds := [.data, .data, .data, .data, .sentinel, .sentinel, .pinned], laidTests := true, laidLooks := .later }
def DottedPrintsUptoCardSaid : Prop := Claim7.holds Tryd.pinned (.plain (OpenSpec.upto dottedPrintsSpec)) dottedPrintsUptoCard

/-- THE SECOND FORM's CARD OF 'weighbridgelaw05.DottedParses'. -/
def dottedParsesUptoCard : Claim7 := { stood := { row := dottedParsesUptoRow, standIns := [], harness := (true, "d273ba101bd455ac609e17afa7c0191b694b8284e52c295736ccea24cf4dbc7a"), looks := true }, kinds := [], alts := [], laidByText := true, laidKinds := [.data, .data, .data, .data, .sentinel, .sentinel, .pinned], laidTests := true, laidLooks := .later }
def DottedParsesUptoCardSaid : Prop := Claim7.holds Tryd.pinned (.plain (OpenSpec.upto dottedParsesSpec)) dottedParsesUptoCard

/-- THE SECOND FORM's CARD OF 'weighbridgelaw05.DottedBack'. -/
def dottedBackUptoCard : Claim7 := { stood := { row := dottedBackUptoRow, standIns := [], harness := (true, "d273ba101bd455ac609e17afa7c0191b694b8284e52c295736ccea24cf4dbc7a"), looks := true }, kinds := [], alts := [], laidByText := true, laidKinds := [.data, .data, .data, .data, .sentinel, .sentinel, .pinned], laidTests := true, laidLooks := .later }
def DottedBackUptoCardSaid : Prop := Claim7.holds Tryd.pinned (.plain (OpenSpec.upto dottedBackSpec)) dottedBackUptoCard

/-- THE SECOND FORM's CARD OF 'weighbridgelaw05.DottedSorts'. -/
def dottedSortsUptoCard : Claim7 := { stood := { row := dottedSortsUptoRow, standIns := [], harness := (true, "d273ba101bd455ac609e17afa7c0191b694b8284e52c295736ccea24cf4dbc7a"), looks := true }, kinds := [], alts := [], laidByText := true, laidKinds := [.data, .data, .data, .data, .sentinel, .sentinel, .pinned], laidTests := true, laidLooks := .later }
def DottedSortsUptoCardSaid : Prop := Claim7.holds Tryd.pinned (.plain (OpenSpec.upto dottedSortsSpec)) dottedSortsUptoCard

/-- THE SECOND FORM's CARD OF 'weighbridgelaw06.ColonsPrints'. -/
def colonsPrintsUptoCard : Claim7 := { stood := { row := colonsPrintsUptoRow, standIns := [], harness := (true, "d273ba101bd455ac609e17afa7c0191b694b8284e52c295736ccea24cf4dbc7a"), looks := true }, kinds := [], alts := [], laidByText := true, laidKinds := [.data, .data, .data, .data, .sentinel, .sentinel, .pinned], laidTests := true, laidLooks := .later }
def ColonsPrintsUptoCardSaid : Prop := Claim7.holds Tryd.pinned (.plain (OpenSpec.upto colonsPrintsSpec)) colonsPrintsUptoCard

/-- THE SECOND FORM's CARD OF 'weighbridgelaw06.ColonsBack'. -/
def colonsBackUptoCard : Claim7 := { stood := { row := colonsBackUptoRow, standIns := [], harness := (true, "d273ba101bd455ac609e17afa7c0191b694b8284e52c295736ccea24cf4dbc7a"), looks := true }, kinds := [], alts := [], laidByText := true, laidKinds := [.data, .data, .data, .data, .sentinel, .sentinel, .pinned], laidTests := true, laidLooks := .later }
def ColonsBackUptoCardSaid : Prop := Claim7.holds Tryd.pinned (.plain (OpenSpec.upto colonsBackSpec)) colonsBackUptoCard

/-- THE SECOND FORM's CARD OF 'weighbridgelaw06.ColonsMaps'. -/
def colonsMapsUptoCard : Claim7 := { stood := { row := colonsMapsUptoRow, standIns := [], harness := (true, "d273ba101bd455ac609e17afa7c0191b694b8284e52c295736ccea24cf4dbc7a"), looks := true }, kinds := [], alts := [], laidByText := true, laidKinds := [.data, .data, .data, .data, .sentinel, .sentinel, .pinned], laidTests := true, laidLooks := .later }
def ColonsMapsUptoCardSaid : Prop := Claim7.holds Tryd.pinned (.plain (OpenSpec.upto colonsMapsSpec)) colonsMapsUptoCard

/-- THE SECOND FORM's CARD OF 'weighbridgetop.WholeAddrs'. -/
def wholeAddrsUptoCard : Claim7 := { stood := { row := wholeAddrsUptoRow, standIns := [], harness := (true, "d273ba101bd455ac609e17afa7c0191b694b8284e52c295736ccea24cf4dbc7a"), looks := true }, kinds := [], alts := [], laidByText := true, laidKinds := [.data, .data, .data, .data, .sentinel, .sentinel, .pinned], laidTests := true, laidLooks := .later }
def WholeAddrsUptoCardSaid : Prop := Claim7.holds Tryd.pinned (.plain (OpenSpec.upto wholeAddrsSpec)) wholeAddrsUptoCard

/-- THE SECOND FORM's CARD OF 'weighbridgelaw08.SpanHas'. -/
def spanHasUptoCard : Claim7 := { stood := { row := spanHasUptoRow, standIns := [], harness := (true, "d273ba101bd455ac609e17afa7c0191b694b8284e52c295736ccea24cf4dbc7a"), looks := true }, kinds := [], alts := [], laidByText := true, laidKinds := [.data, .data, .data, .sentinel, .sentinel], laidTests := true, laidLooks := .later }
def SpanHasUptoCardSaid : Prop := Claim7.holds Tryd.pinned (.plain (OpenSpec.upto spanHasSpec)) spanHasUptoCard

/-- THE SECOND FORM's CARD OF 'weighbridgelaw07.PrefixChecks'. -/
def prefixChecksUptoCard : Claim7 := { stood := { row := prefixChecksUptoRow, standIns := [], harness := (true, "d273ba101bd455ac609e17afa7c0191b694b8284e52c295736ccea24cf4dbc7a"), looks := true }, kinds := [], alts := [], laidByText := true, laidKinds := [.data, .data, .data, .data, .sentinel, .sentinel, .pinned], laidTests := true, laidLooks := .later }
def PrefixChecksUptoCardSaid : Prop := Claim7.holds Tryd.pinned (.plain (OpenSpec.upto prefixChecksSpec)) prefixChecksUptoCard
end Rows
end Go.Proofs.YtdeecobpglfgaaaDoor
