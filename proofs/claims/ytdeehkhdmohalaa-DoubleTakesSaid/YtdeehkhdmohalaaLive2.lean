/-
  The contract of wide's Text.
  The examples of layer 2 come out as they must, in whatever world: the contract of weighbridgelaw02.live.
-/
import Derived.Test.YtdeehkhdmohalaaWid4
import Derived.Test.YtdeehkhdmohalaaWPlain3
import Derived.Test.YtdeehkhdmohalaaOwn
namespace Go.Proofs.Ytdeehkhdmohalaa
open Go.RowKit
set_option linter.unusedVariables false
attribute [local go_sem ↓] Go.wp_at_zero Go.wp_at_succ

theorem of_zero (w : World) : Calls Try.prog 35 #[.int .u64 0] w fun e w' => e = .returned (.agg #[.int .u64 0, .int .u64 0]) ∧ Below w.heap.size w w' := by
  have := of_any 0 w
  simpa using this
end Go.Proofs.Ytdeehkhdmohalaa

namespace Go.Proofs.Ytdeehkhdmohalaa
open Go.RowKit
set_option linter.unusedVariables false

theorem l2_of1 (w : World) : Calls Try.prog 35 #[.int .u64 1] w fun e w' => e = .returned (.agg #[.int .u64 0, .int .u64 1]) ∧ Below w.heap.size w w' := of_any 1 w
theorem l2_of3 (w : World) : Calls Try.prog 35 #[.int .u64 3] w fun e w' => e = .returned (.agg #[.int .u64 0, .int .u64 3]) ∧ Below w.heap.size w w' := of_any 3 w
theorem l2_of4 (w : World) : Calls Try.prog 35 #[.int .u64 4] w fun e w' => e = .returned (.agg #[.int .u64 0, .int .u64 4]) ∧ Below w.heap.size w w' := of_any 4 w
theorem l2_of5 (w : World) : Calls Try.prog 35 #[.int .u64 5] w fun e w' => e = .returned (.agg #[.int .u64 0, .int .u64 5]) ∧ Below w.heap.size w w' := of_any 5 w

/-- Two words lie in block g. -/
def Two (W : World) (g : Nat) (a b : Int) : Prop := W.cell? ⟨g, 0, none⟩ = some (.int .u64 a) ∧ W.cell? ⟨g, 1, none⟩ = some (.int .u64 b)
theorem Two.new (w : World) (a b : Int) : Two (w.alloc (.cells #[.int .u64 a, .int .u64 b] 54)) w.heap.size a b :=
  ⟨cell_of_row _ w.heap.size 0 _ _ _ (heap_alloc_new w _), cell_of_row _ w.heap.size 1 _ _ _ (heap_alloc_new w _)⟩
theorem Two.below {w w' : World} {g : Nat} {a b : Int} (h : Two w g a b) (hb : Below w.heap.size w w') : Two w' g a b := ⟨carry h.1 hb, carry h.2 hb⟩
theorem Two.alloc {w : World} {g : Nat} {a b : Int} (h : Two w g a b) (o : Obj) : Two (w.alloc o) g a b := h.below ((Below.refl _ _).alloc (Nat.le_refl _) o)
theorem l2_add (w : World) : Calls Try.prog 31 #[.agg #[.int .u64 18446744073709551615, .int .u64 18446744073709551615], .agg #[.int .u64 0, .int .u64 1]] w fun e w' =>
    e = .returned (.tuple #[.agg #[.int .u64 0, .int .u64 0], .bool true]) ∧ Below w.heap.size w w' :=
  add_raw 18446744073709551615 18446744073709551615 0 1 w128 true w (by decide) (by decide) (by decide) (by decide) (by decide : w128 = wnum 18446744073709551615 18446744073709551615 + wnum 0 1) (by decide : true = decide (w128 ≤ w128))
theorem l2_sub (w : World) : Calls Try.prog 34 #[.agg #[.int .u64 0, .int .u64 0], .agg #[.int .u64 0, .int .u64 1]] w fun e w' =>
    e = .returned (.tuple #[.agg #[.int .u64 18446744073709551615, .int .u64 18446744073709551615], .bool true]) ∧ Below w.heap.size w w' :=
  sub_raw 0 0 0 1 (w128 - 1) true w (by decide) (by decide) (by decide) (by decide) (by decide : w128 - 1 = wnum 0 0 + w128 - wnum 0 1) (by decide : true = decide (wnum 0 0 < wnum 0 1))
theorem l2_mul (w : World) : Calls Try.prog 22 #[.int .u64 18446744073709551615, .int .u64 18446744073709551615] w fun e w' =>
    e = .returned (.agg #[.int .u64 18446744073709551614, .int .u64 1]) ∧ Below w.heap.size w w' :=
  mul_any 18446744073709551615 18446744073709551615 w (by decide) (by decide)
theorem l2_most (w : World) : Calls Try.prog 33 #[.agg #[.int .u64 1, .int .u64 0], .int .u64 7] w fun e w' => e = .returned (.int .u64 7) ∧ Below w.heap.size w w' :=
  cap_most 1 0 7 w (by decide) (by decide) (by decide) (by decide : ¬ wnum 1 0 < 7)
theorem l2_less (w : World) : Calls Try.prog 33 #[.agg #[.int .u64 0, .int .u64 5], .int .u64 7] w fun e w' => e = .returned (.int .u64 5) ∧ Below w.heap.size w w' :=
  cap_less 0 5 7 w (by decide) (by decide) (by decide) (by decide : wnum 0 5 < 7)
theorem l2_lt (w : World) : Calls Try.prog 42 #[.agg #[.int .u64 0, .int .u64 3], .agg #[.int .u64 0, .int .u64 4]] w fun e w' => e = .returned (.bool true) ∧ Below w.heap.size w w' :=
  less_yes 0 3 0 4 w (by decide) (by decide) (by decide : wnum 0 3 < wnum 0 4)
end Go.Proofs.Ytdeehkhdmohalaa
