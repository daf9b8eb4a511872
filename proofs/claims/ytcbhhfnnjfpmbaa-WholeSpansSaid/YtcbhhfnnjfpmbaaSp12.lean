/-
  The document's Same, SameInts over equal rows.
-/
import Derived.Test.YtcbhhfnnjfpmbaaSp11
namespace Go.Proofs.Ytcbhhfnnjfpmbaa
open Go.RowKit Go.Shelf Go.Lib Go.Sort
set_option linter.unusedVariables false

theorem k_wrap {k n : Nat} (h : k < n) (hn : n ≤ 8796093022207) : IntKind.i64.wrap (k : Int) = (k : Int) := by rw [IntKind.wrap_i64]; omega
end Go.Proofs.Ytcbhhfnnjfpmbaa
