/-
  Contracts of octet's ones, within, Bits, SetBits and of the document's are, bit, fits, Bits, SetBits.
-/
import Derived.Test.YtdeecobpglfgaaaDoorBase
import Derived.Test.YtdeecobpglfgaaaDoorPlain2
namespace Go.Proofs.YtdeecobpglfgaaaDoor
open Go.RowKit
set_option linter.unusedVariables false

end Go.Proofs.YtdeecobpglfgaaaDoor
