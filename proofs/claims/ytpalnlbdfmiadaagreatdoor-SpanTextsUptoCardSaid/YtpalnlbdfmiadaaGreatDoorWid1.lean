/-
  Contracts of wide's Of, Less, Add, Sub, over the two words of a number.
-/
import Derived.Test.YtpalnlbdfmiadaaGreatDoorBase
import Derived.Test.YtpalnlbdfmiadaaGreatDoorWPlain
import Derived.Handy
import Derived.Shelf.Spec.BitsCarry
namespace Go.Proofs.YtpalnlbdfmiadaaGreatDoor
open Go.RowKit
set_option linter.unusedVariables false

theorem below_two (w : World) (o1 o2 : Obj) : Below w.heap.size w ((w.alloc o1).alloc o2) := ((Below.refl _ _).alloc (Nat.le_refl _) o1).alloc (by simp) o2
theorem below_three (w : World) (o1 o2 o3 : Obj) : Below w.heap.size w (((w.alloc o1).alloc o2).alloc o3) := (below_two w o1 o2).alloc (by simp; omega) o3

end Go.Proofs.YtpalnlbdfmiadaaGreatDoor
