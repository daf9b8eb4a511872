/-
  The contract of wide's Text.
  The examples of layer 2 come out as they must, in whatever world: the contract of weighbridgelaw02.live.
-/
import Derived.Test.YtpalnlbdfmiadaaGreatDoorWid4
import Derived.Test.YtpalnlbdfmiadaaGreatDoorWPlain3
import Derived.Test.YtpalnlbdfmiadaaGreatDoorOwn
namespace Go.Proofs.YtpalnlbdfmiadaaGreatDoor
open Go.RowKit
set_option linter.unusedVariables false
attribute [local go_sem ↓] Go.wp_at_zero Go.wp_at_succ

end Go.Proofs.YtpalnlbdfmiadaaGreatDoor

namespace Go.Proofs.YtpalnlbdfmiadaaGreatDoor
open Go.RowKit
set_option linter.unusedVariables false

/-- Two words lie in block g. -/
def Two (W : World) (g : Nat) (a b : Int) : Prop := W.cell? ⟨g, 0, none⟩ = some (.int .u64 a) ∧ W.cell? ⟨g, 1, none⟩ = some (.int .u64 b)
theorem Two.new (w : World) (a b : Int) : Two (w.alloc (.cells #[.int .u64 a, .int .u64 b] 43)) w.heap.size a b :=
  ⟨cell_of_row _ w.heap.size 0 _ _ _ (heap_alloc_new w _), cell_of_row _ w.heap.size 1 _ _ _ (heap_alloc_new w _)⟩
theorem Two.below {w w' : World} {g : Nat} {a b : Int} (h : Two w g a b) (hb : Below w.heap.size w w') : Two w' g a b := ⟨carry h.1 hb, carry h.2 hb⟩
theorem Two.alloc {w : World} {g : Nat} {a b : Int} (h : Two w g a b) (o : Obj) : Two (w.alloc o) g a b := h.below ((Below.refl _ _).alloc (Nat.le_refl _) o)
end Go.Proofs.YtpalnlbdfmiadaaGreatDoor
