/-
  The walk of the statement WideMuls.
-/
import Derived.Test.YtbnheffeojnjdaaLive2
import Derived.Test.YtbnheffeojnjdaaRef2g
namespace Go.Proofs.Ytbnheffeojnjdaa
open Go.RowKit
set_option linter.unusedVariables false
attribute [local go_sem ↓] Go.wp_at_zero Go.wp_at_succ

theorem walk_WideMuls (a b : Nat) (w : World) (ha : a ≤ 18446744073709551615) (hb : b ≤ 18446744073709551615) :
    Calls Try.prog 9 #[.int .u64 a, .int .u64 b] w fun e w' => e = .returned (.bool true) ∧ Below w.heap.size w w' := by
  have C1 := Lib.hid (fun w => mul_any a b w ha hb)
  have C2 := Lib.hid (fun w => rmul_any a b w ha hb)
  go_enter Try.func9, Try.ntmps9
  go_wp2_with fail
  refine (live2 _).mono ?_
  rintro e w1 ⟨rfl, b1⟩
  have B1 := Lib.hid b1
  clear b1
  go_wp2_with fail
  refine (C1.out _).mono ?_
  rintro e w2 ⟨rfl, b2⟩
  have B2 := Lib.hid (below_both B1.out b2)
  clear b2
  go_wp2_with fail
  refine (C2.out _).mono ?_
  rintro e w3 ⟨rfl, b3⟩
  have B3 := Lib.hid (below_both B2.out b3)
  clear b3
  go_wp2_with fail
  go_ret
  exact ⟨by simp, B3.out⟩
end Go.Proofs.Ytbnheffeojnjdaa
