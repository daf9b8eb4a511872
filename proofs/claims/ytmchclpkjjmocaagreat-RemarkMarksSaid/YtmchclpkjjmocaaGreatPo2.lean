/-
  Contracts of span's port, Check, All, Has for the span of all ports; of ports' putWord and Write.
-/
import Derived.Test.YtmchclpkjjmocaaGreatPo1
import Derived.Test.YtmchclpkjjmocaaGreatApp
import Derived.Test.YtmchclpkjjmocaaGreatOct7
namespace Go.Proofs.YtmchclpkjjmocaaGreat
open Go.RowKit
set_option linter.unusedVariables false

def spPort (n : Int) : Bool := decide (0 ≤ n ∧ n ≤ 65535)
end Go.Proofs.YtmchclpkjjmocaaGreat
