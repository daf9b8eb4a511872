/-
  The library's sort, compaction and comparison, by the shelf's contracts.
-/
import Derived.Test.YtcbhhfnnjfpmbaaBase
import Derived.Shelf.Lay
import Derived.Shelf.Sort.Plain
import Derived.Shelf.Slices.CompactI
import Derived.Shelf.SlSortCmp.WholeK
import Derived.Shelf.SlicesG.Cmp
import Derived.Shelf.Small.Bits
import Derived.Ground.NamesProg
import Derived.Ground.Names2Prog
import Derived.Ground.SlsfProg
import Derived.Ground.SlgcProg
import Derived.Sort.OwnSortedInts
namespace Go.Proofs.Ytcbhhfnnjfpmbaa
open Go.Shelf Go.RowKit Go.Lib Go.Sort
set_option linter.unusedVariables false
shelf_lay Lays.n189 Nm 189 at Try as lays189
shelf_lay Lays2.n20 Nm2 20 at Try as laysCompact
shelf_lay_g SlLaysF0.n6 Slsf 6 at Try 32 as laysSortSpan
shelf_lay_g SlLaysC2.n5 Slgc 5 at Try 19 as laysCmpInt
end Go.Proofs.Ytcbhhfnnjfpmbaa
