/-
  The document's Read of layer 10.
-/
import Derived.Test.YtlopmkmcjcijcaaFh1
import Derived.Test.YtlopmkmcjcijcaaRegAlloc
namespace Go.Proofs.Ytlopmkmcjcijcaa
open Go.RowKit
set_option linter.unusedVariables false

/-- The numbers of a header, ahead of its addresses. -/
def fhg (bs : List Nat) : List Value :=
  [.int .i64 (bs.getD 0 0 % 16 : Nat), .int .i64 (bs.getD 1 0 : Nat), .int .i64 (fhw bs 2 : Nat), .int .i64 (fhw bs 4 : Nat), .int .i64 (bs.getD 6 0 / 32 : Nat), .int .i64 (fhw bs 6 % 8192 : Nat), .int .i64 (bs.getD 8 0 : Nat), .int .i64 (bs.getD 9 0 : Nat), .int .i64 (fhw bs 10 : Nat),
    .int .u8 0, .int .u8 0, .int .u8 0, .int .u8 0, .int .u8 0, .int .u8 0, .int .u8 0, .int .u8 0]
/-- With so many bytes of each address. -/
def fhc (bs : List Nat) : Nat → List Value
  | 0 => fhg bs
  | k + 1 => ((fhc bs k).set (9 + k) (.int .u8 (bs.getD (12 + k) 0 : Nat))).set (13 + k) (.int .u8 (bs.getD (16 + k) 0 : Nat))
theorem fhc_four (bs : List Nat) : fhc bs 4 = fhf bs := rfl
theorem fhc_len (bs : List Nat) : ∀ k, (fhc bs k).length = 17
  | 0 => rfl
  | k + 1 => by unfold fhc; rw [List.length_set, List.length_set]; exact fhc_len bs k
end Go.Proofs.Ytlopmkmcjcijcaa
