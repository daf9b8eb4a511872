/-
  What All tells of a header that Read refuses.
-/
import Derived.Test.YtlopmkmcjcijcaaFh2
namespace Go.Proofs.Ytlopmkmcjcijcaa
open Go.RowKit
set_option linter.unusedVariables false

theorem fhval_len (n : Nat) (bs : List Nat) : (fhval n bs).length = 17 := by
  unfold fhval
  split <;> rfl
theorem fhval_one (n : Nat) (bs : List Nat) : ∀ v ∈ fhval n bs, v.oneCell' = true := by
  unfold fhval
  split
  · exact fhf_one bs
  · exact fhz_one
end Go.Proofs.Ytlopmkmcjcijcaa
