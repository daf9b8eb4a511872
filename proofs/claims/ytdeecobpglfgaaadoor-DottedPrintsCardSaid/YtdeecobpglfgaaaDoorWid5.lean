/-
  The contract of wide's Text.
-/
import Derived.Test.YtdeecobpglfgaaaDoorWid4
import Derived.Test.YtdeecobpglfgaaaDoorWPlain3
import Derived.Test.YtdeecobpglfgaaaDoorOwn
namespace Go.Proofs.YtdeecobpglfgaaaDoor
open Go.RowKit
set_option linter.unusedVariables false
attribute [local go_sem ↓] Go.wp_at_zero Go.wp_at_succ

end Go.Proofs.YtdeecobpglfgaaaDoor
