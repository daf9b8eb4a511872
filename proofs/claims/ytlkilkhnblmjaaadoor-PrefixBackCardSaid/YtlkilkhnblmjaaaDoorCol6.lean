/-
  Arrays of layer 6, with the variables of several cells.
-/
import Derived.Test.YtlkilkhnblmjaaaDoorCol3
import Derived.Test.YtlkilkhnblmjaaaDoorArrV
