/-
  The walk of the statement WholeDrops.
-/
import Derived.Test.YtmgjaghmnnipbaaWWDropsA
import Derived.Test.YtmgjaghmnnipbaaWWDropsB
namespace Go.Proofs.Ytmgjaghmnnipbaa
open Go.RowKit

theorem walk_WholeDrops (l0 r0 : Nat) (A : Option Addr) (len cap : Nat) (L : List (Int × Int)) (w : World) (hl : l0 ≤ 18446744073709551615) (hr : r0 ≤ 18446744073709551615) (hL : RowQ .u32 w A len L) (hlen : len ≤ 140737488351232) (hcap : len ≤ cap) :
    Calls Try.prog 7 #[.int .u64 l0, .int .u64 r0, .slice A len cap] w fun e w' => e = .returned (.bool true) ∧ Below w.heap.size w w' := by
  by_cases hgt : 100 < len
  · exact drops_long l0 r0 A len cap L w hl hr hL hlen hcap hgt
  · exact drops_short l0 r0 A len cap L w hl hr hL hlen hcap hgt
end Go.Proofs.Ytmgjaghmnnipbaa
