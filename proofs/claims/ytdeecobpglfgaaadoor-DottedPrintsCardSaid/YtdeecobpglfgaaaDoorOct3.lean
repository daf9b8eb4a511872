/-
  Contracts of octet.Cut and octet.Put: a copy of some bytes; a copy with a number put in; or which error.
-/
import Derived.Test.YtdeecobpglfgaaaDoorOct2
import Derived.Test.YtdeecobpglfgaaaDoorOwn
namespace Go.Proofs.YtdeecobpglfgaaaDoor
open Go.RowKit
set_option linter.unusedVariables false

/-- What Cut answers: new memory with these bytes. -/
def CutTo (w : World) (l : List Nat) (e : Ending) (w' : World) : Prop :=
  e = .returned (.tuple #[.slice (some ⟨w.heap.size, 0, none⟩) l.length l.length, .int .i64 0]) ∧ Own w' w.heap.size l ∧ Below w.heap.size w w'

end Go.Proofs.YtdeecobpglfgaaaDoor
