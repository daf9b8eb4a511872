/-
  The contract of bits.Div64 where it does not panic, and of wide's Div.
-/
import Derived.Test.YtdeehkhdmohalaaWid2
import Derived.Test.YtdeehkhdmohalaaWPlain2
import Derived.Test.YtdeehkhdmohalaaPlain
import Derived.Shelf.Lay
import Derived.Shelf.Small.Bits
import Derived.Shelf.Strconv.Itoa0
import Derived.Deep.CutRange
import Derived.Deep.CutBlock
import Derived.Deep.QuietTactic
import Derived.BigQuiet
namespace Go.Proofs.Ytdeehkhdmohalaa
open Go.RowKit Go.Shelf
set_option linter.unusedVariables false
attribute [local go_sem ↓] Go.wp_at_zero Go.wp_at_succ

theorem shl_or (n s x : Nat) (hx : x < 2 ^ s) (h : n * 2 ^ s ≤ 18446744073709551615) (hs : s ≤ 64) : bits .or .u64 ((n * 2 ^ s : Nat) : Int) (x : Int) = ((n * 2 ^ s + x : Nat) : Int) := by
  have hx2 : x < 18446744073709551616 := Nat.lt_of_lt_of_le hx (pow_le_64 hs)
  rw [u64_or_nat _ _ (by omega) (by omega)]
  congr 1
  rw [Nat.mul_comm, Nat.two_pow_add_eq_or_of_lt hx]

theorem wrap_nat (n : Nat) (h : n ≤ 18446744073709551615) : IntKind.u64.wrap (n : Int) = n := IntWalk.u64_in _ ⟨by omega, by omega⟩
theorem wrap_div (a b : Nat) (h : a ≤ 18446744073709551615) : IntKind.u64.wrap ((a : Int) / (b : Int)) = ((a / b : Nat) : Int) := by
  have := Nat.div_le_self a b
  have e : ((a : Int) / (b : Int)) = ((a / b : Nat) : Int) := by simp
  rw [e]
  exact wrap_nat _ (by omega)

theorem wrap_rest (u c Q Y m : Nat) (h : u * 4294967296 + c = Y * Q + m) (hm : m ≤ 18446744073709551615) :
    IntKind.u64.wrap (IntKind.u64.wrap (IntKind.u64.wrap ((u : Int) * 4294967296) + (c : Int)) - IntKind.u64.wrap ((Q : Int) * (Y : Int))) = (m : Int) := by
  have e : ((Q : Int) * (Y : Int)) = ((Y * Q : Nat) : Int) := by rw [Nat.mul_comm]; simp
  rw [e]
  generalize Y * Q = B at h
  rw [IntKind.wrap_u64, IntKind.wrap_u64, IntKind.wrap_u64, IntKind.wrap_u64]
  omega

end Go.Proofs.Ytdeehkhdmohalaa
