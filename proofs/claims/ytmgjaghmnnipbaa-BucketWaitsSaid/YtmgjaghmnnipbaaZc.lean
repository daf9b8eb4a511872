/-
  The zero value of a row of 128 ints, named: for a seat whose loader writes no name for a zero value of more than 64 cells. Nothing is claimed of the program here.
-/
import Derived.Test.YtmgjaghmnnipbaaBase
namespace Go.Proofs
--@small
def Try.zeroCells59 : Array Value := (List.replicate 128 (Value.int .i64 0)).toArray
@[simp] theorem Try.zeroValue59 (w : World) : (zeroValue 59).run Try.prog w = .ok (.agg Try.zeroCells59) w := by
  unfold Try.zeroCells59
  kernel_rfl
theorem Try.zeroCells59_size : Try.zeroCells59.size = 128 := by
  unfold Try.zeroCells59
  kernel_rfl
@[simp] theorem Try.zeroCells59_ne : Try.zeroCells59 ≠ #[] := by
  intro h
  have := Try.zeroCells59_size
  rw [h] at this
  cases this
--@end
end Go.Proofs
