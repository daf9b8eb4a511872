/-
  Contracts of onesum's Check, Good and Fill and of the document's.
-/
import Derived.Test.YtlopmkmcjcijcaaOne2
import Derived.Test.YtlopmkmcjcijcaaOPlain2
import Derived.Test.YtlopmkmcjcijcaaAgree1
namespace Go.Proofs.Ytlopmkmcjcijcaa
open Go.RowKit
set_option linter.unusedVariables false

end Go.Proofs.Ytlopmkmcjcijcaa
