/-
  The contract of the document's Of.
-/
import Derived.Test.YtpalnlbdfmiadaaGreatDoorWid1
namespace Go.Proofs.YtpalnlbdfmiadaaGreatDoor
open Go.RowKit
set_option linter.unusedVariables false

theorem rof_any (n : Nat) (w : World) : Calls Tryz.prog 40 #[.int .u64 n] w fun e w' => e = .returned (.agg #[.int .u64 0, .int .u64 n]) ∧ Below w.heap.size w w' := by
  go_enter Tryz.func40, Tryz.ntmps40
  go_wp2
  go_returns
  exact ⟨rfl, (Below.refl _ _).alloc (Nat.le_refl _) _⟩
end Go.Proofs.YtpalnlbdfmiadaaGreatDoor
