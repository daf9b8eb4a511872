/-
  The contract of the document's Div: the walk.
-/
import Derived.Test.YtdeehkhdmohalaaRef2h
import Derived.Deep.RegionHeld3
namespace Go.Proofs.Ytdeehkhdmohalaa
open Go.RowKit
set_option linter.unusedVariables false
attribute [local go_sem ↓] Go.wp_at_zero Go.wp_at_succ
attribute [local go_sem] World.cell?_alloc_some fcells_length run_storeCells_row Place.new Place.new2 Place.newOld Place.stored

end Go.Proofs.Ytdeehkhdmohalaa
