/-
  The zero value of a row of 128 ints, named: for a seat whose loader writes no name for a zero value of more than 64 cells. Nothing is claimed of the program here.
-/
import Derived.Test.YtpalnlbdfmiadaaGreatDoorBase
namespace Go.Proofs
end Go.Proofs
