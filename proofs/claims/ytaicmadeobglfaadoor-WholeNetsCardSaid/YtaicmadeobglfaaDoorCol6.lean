/-
  Arrays of layer 6, with the variables of several cells.
-/
import Derived.Test.YtaicmadeobglfaaDoorCol3
import Derived.Test.YtaicmadeobglfaaDoorArrV
