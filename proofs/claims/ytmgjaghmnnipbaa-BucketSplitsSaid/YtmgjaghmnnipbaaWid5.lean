/-
  The contract of wide's Text.
-/
import Derived.Test.YtmgjaghmnnipbaaWid4
import Derived.Test.YtmgjaghmnnipbaaWPlain3
import Derived.Test.YtmgjaghmnnipbaaOwn
namespace Go.Proofs.Ytmgjaghmnnipbaa
open Go.RowKit
set_option linter.unusedVariables false
attribute [local go_sem ↓] Go.wp_at_zero Go.wp_at_succ

theorem of_zero (w : World) : Calls Try.prog 21 #[.int .u64 0] w fun e w' => e = .returned (.agg #[.int .u64 0, .int .u64 0]) ∧ Below w.heap.size w w' := by
  have := of_any 0 w
  simpa using this
theorem div_ten (N : Nat) (x y : Nat) (w : World) (hN : N < w128) (hx : Hid (x = whi (N / 10))) (hy : Hid (y = wlo (N / 10))) :
    Calls Try.prog 28 #[.agg #[.int .u64 (whi N : Nat), .int .u64 (wlo N : Nat)], .int .u64 10] w fun e w' =>
      e = .returned (.tuple #[.agg #[.int .u64 x, .int .u64 y], .int .u64 (N % 10 : Nat)]) ∧ Below w.heap.size w w' := by
  rw [hx.out, hy.out]
  exact div_any (whi N) (wlo N) 10 N w (by decide) (words_back hN) (whi_le N) (wlo_le N) (by decide)

end Go.Proofs.Ytmgjaghmnnipbaa
