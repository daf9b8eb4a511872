/-
  The zero value of a row of 128 ints, named: for a seat whose loader writes no name for a zero value of more than 64 cells. Nothing is claimed of the program here.
-/
import Derived.Test.YtdeehkhdmohalaaBase
namespace Go.Proofs
--@small
def Try.zeroCells76 : Array Value := (List.replicate 128 (Value.int .i64 0)).toArray
@[simp] theorem Try.zeroValue76 (w : World) : (zeroValue 76).run Try.prog w = .ok (.agg Try.zeroCells76) w := by
  unfold Try.zeroCells76
  kernel_rfl
theorem Try.zeroCells76_size : Try.zeroCells76.size = 128 := by
  unfold Try.zeroCells76
  kernel_rfl
@[simp] theorem Try.zeroCells76_ne : Try.zeroCells76 ≠ #[] := by
  intro h
  have := Try.zeroCells76_size
  rw [h] at this
  cases this
--@end
end Go.Proofs
