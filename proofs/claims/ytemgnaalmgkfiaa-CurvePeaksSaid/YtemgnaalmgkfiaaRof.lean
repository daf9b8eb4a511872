/-
  The contract of the document's Of.
-/
import Derived.Test.YtemgnaalmgkfiaaWid1
namespace Go.Proofs.Ytemgnaalmgkfiaa
open Go.RowKit
set_option linter.unusedVariables false

theorem rof_any (n : Nat) (w : World) : Calls Try.prog 32 #[.int .u64 n] w fun e w' => e = .returned (.agg #[.int .u64 0, .int .u64 n]) ∧ Below w.heap.size w w' := by
  go_enter Try.func32, Try.ntmps32
  go_wp2
  go_returns
  exact ⟨rfl, (Below.refl _ _).alloc (Nat.le_refl _) _⟩
end Go.Proofs.Ytemgnaalmgkfiaa
