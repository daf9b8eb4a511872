/-
  The contract of the document's Of.
-/
import Derived.Test.YtfnbbhnigndifaaDoorWid1
namespace Go.Proofs.YtfnbbhnigndifaaDoor
open Go.RowKit
set_option linter.unusedVariables false

theorem rof_any (n : Nat) (w : World) : Calls Tryd.prog 74 #[.int .u64 n] w fun e w' => e = .returned (.agg #[.int .u64 0, .int .u64 n]) ∧ Below w.heap.size w w' := by
  go_enter Tryd.func74, Tryd.ntmps74
  go_wp2
  go_returns
  exact ⟨rfl, (Below.refl _ _).alloc (Nat.le_refl _) _⟩
end Go.Proofs.YtfnbbhnigndifaaDoor
