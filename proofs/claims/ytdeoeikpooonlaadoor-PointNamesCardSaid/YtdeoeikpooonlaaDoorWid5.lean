/-
  The contract of wide's Text.
-/
import Derived.Test.YtdeoeikpooonlaaDoorWid4
import Derived.Test.YtdeoeikpooonlaaDoorWPlain3
import Derived.Test.YtdeoeikpooonlaaDoorOwn
namespace Go.Proofs.YtdeoeikpooonlaaDoor
open Go.RowKit
set_option linter.unusedVariables false
attribute [local go_sem ↓] Go.wp_at_zero Go.wp_at_succ

end Go.Proofs.YtdeoeikpooonlaaDoor
