/-
  The walk of PrefixBack.
-/
import Derived.Test.YtlkilkhnblmjaaaDoorWPBack4
import Derived.Test.YtlkilkhnblmjaaaDoorWPBack6
namespace Go.Proofs.YtlkilkhnblmjaaaDoor
open Go.RowKit
set_option linter.unusedVariables false

theorem walk_PrefixBack (b : Bool) (n : Nat) (X Y : List Nat) (w : World) (hT : Six w) (hi : n ≤ 255) (hX : Adr X) (hY : Adr Y) :
    Calls Tryd.prog 5 #[.bool b, .int .u8 n, .agg (bcells X ++ bcells Y).toArray] w fun e w' => e = .returned (.bool true) ∧ Below w.heap.size w w' := by
  cases b
  · exact wpback4 n X Y w hT (by omega) hX hY
  · exact wpback6 n X Y w hT (by omega) hX hY
end Go.Proofs.YtlkilkhnblmjaaaDoor
