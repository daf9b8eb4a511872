/-
  Contracts of point: Split, Join, valid; and of the document: Is, Split, Join.
-/
import Derived.Test.YtcjaidpmfjnhpaaOwn
import Derived.Laws.BitsAllLaws
namespace Go.Proofs.Ytcjaidpmfjnhpaa
open Go.RowKit
set_option linter.unusedVariables false

theorem pt_or : ∀ d, d < 64 → ∀ e, e < 4 → bits .or .i64 ((d : Nat) * 4 : Int) (e : Nat) = ((4 * d + e : Nat) : Int) := by decide +kernel
theorem ptsplit_any (b : Nat) (w : World) (hb : b ≤ 255) :
    Calls Try.prog 25 #[.int .u8 b] w fun e w' => e = .returned (.tuple #[.int .i64 (b / 4 : Nat), .int .i64 (b % 4 : Nat)]) ∧ w = w' := by
  have h1 : bits .and .u8 (b : Int) 3 = ((b % 4 : Nat) : Int) := by
    have := u8_and_nat b 3 (by omega) (by decide)
    rw [nat_mask2] at this
    exact this
  go_enter Try.func25, Try.ntmps25
  go_wp2_with fail
  go_ret2
  exact ⟨rfl, rfl⟩
def ptJoin (d e : Int) : Value := if 0 ≤ d ∧ d < 64 then (if 0 ≤ e ∧ e < 4 then .tuple #[.int .u8 (4 * d + e), .int .i64 0] else .tuple #[.int .u8 0, .int .i64 1]) else .tuple #[.int .u8 0, .int .i64 14]
theorem rptsplit_any (b : Nat) (w : World) (hb : b ≤ 255) :
    Calls Try.prog 26 #[.int .u8 b] w fun e w' => e = .returned (.tuple #[.int .i64 (b / 4 : Nat), .int .i64 (b % 4 : Nat)]) ∧ w = w' := by
  have h1 : wrap64 (b : Int) = (b : Int) := by unfold wrap64; omega
  go_enter Try.func26, Try.ntmps26
  go_wp2_with fail
  go_ret2
  exact ⟨rfl, rfl⟩
end Go.Proofs.Ytcjaidpmfjnhpaa
