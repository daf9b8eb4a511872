/-
  The contract of the document's Of.
-/
import Derived.Test.YtdeehkhdmohalaaWid1
namespace Go.Proofs.Ytdeehkhdmohalaa
open Go.RowKit
set_option linter.unusedVariables false

theorem rof_any (n : Nat) (w : World) : Calls Try.prog 40 #[.int .u64 n] w fun e w' => e = .returned (.agg #[.int .u64 0, .int .u64 n]) ∧ Below w.heap.size w w' := by
  go_enter Try.func40, Try.ntmps40
  go_wp2
  go_returns
  exact ⟨rfl, (Below.refl _ _).alloc (Nat.le_refl _) _⟩
end Go.Proofs.Ytdeehkhdmohalaa
