/-
  Contracts of octet's ones, within, Bits, SetBits and of the document's are, bit, fits, Bits, SetBits.
-/
import Derived.Test.YtnofalgcpgheoaaDoorBase
import Derived.Test.YtnofalgcpgheoaaDoorPlain2
namespace Go.Proofs.YtnofalgcpgheoaaDoor
open Go.RowKit
set_option linter.unusedVariables false

theorem ones_any (c : Int) (w : World) (h0 : 0 ≤ c) (h1 : c ≤ 64) :
    Calls Tryd.prog 38 #[.int .i64 c] w fun e w' => e = .returned (.int .u64 ((2 ^ c.toNat - 1 : Nat) : Int)) ∧ w = w' := by
  have h := Lib.hid (ones_eq c.toNat (by omega))
  go_enter Tryd.func38, Tryd.ntmps38
  go_wp2
  go_ret
  refine ⟨?_, rfl⟩
  rw [← h.out]
  rfl
end Go.Proofs.YtnofalgcpgheoaaDoor
