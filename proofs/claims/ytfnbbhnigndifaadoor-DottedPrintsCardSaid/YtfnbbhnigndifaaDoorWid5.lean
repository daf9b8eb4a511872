/-
  The contract of wide's Text.
-/
import Derived.Test.YtfnbbhnigndifaaDoorWid4
import Derived.Test.YtfnbbhnigndifaaDoorWPlain3
import Derived.Test.YtfnbbhnigndifaaDoorOwn
namespace Go.Proofs.YtfnbbhnigndifaaDoor
open Go.RowKit
set_option linter.unusedVariables false
attribute [local go_sem ↓] Go.wp_at_zero Go.wp_at_succ

end Go.Proofs.YtfnbbhnigndifaaDoor
