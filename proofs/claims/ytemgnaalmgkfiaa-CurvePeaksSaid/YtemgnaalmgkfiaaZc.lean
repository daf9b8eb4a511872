/-
  The zero value of a row of 128 ints, named: for a seat whose loader writes no name for a zero value of more than 64 cells. Nothing is claimed of the program here.
-/
import Derived.Test.YtemgnaalmgkfiaaBase
namespace Go.Proofs
--@small
def Try.zeroCells70 : Array Value := (List.replicate 128 (Value.int .i64 0)).toArray
@[simp] theorem Try.zeroValue70 (w : World) : (zeroValue 70).run Try.prog w = .ok (.agg Try.zeroCells70) w := by
  unfold Try.zeroCells70
  kernel_rfl
theorem Try.zeroCells70_size : Try.zeroCells70.size = 128 := by
  unfold Try.zeroCells70
  kernel_rfl
@[simp] theorem Try.zeroCells70_ne : Try.zeroCells70 ≠ #[] := by
  intro h
  have := Try.zeroCells70_size
  rw [h] at this
  cases this
--@end
end Go.Proofs
