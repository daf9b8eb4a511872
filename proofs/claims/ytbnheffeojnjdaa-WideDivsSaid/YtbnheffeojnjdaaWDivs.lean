/-
  The walk of the statement WideDivs.
-/
import Derived.Test.YtbnheffeojnjdaaLive2
import Derived.Test.YtbnheffeojnjdaaRef2i
namespace Go.Proofs.Ytbnheffeojnjdaa
open Go.RowKit
set_option linter.unusedVariables false
attribute [local go_sem ↓] Go.wp_at_zero Go.wp_at_succ

theorem both_div (a b n : Nat) (ha : a ≤ 18446744073709551615) (hb : b ≤ 18446744073709551615) (hn : n ≤ 18446744073709551615) : ∃ x y r : Nat,
    (∀ w, Calls Try.prog 42 #[.agg #[.int .u64 a, .int .u64 b], .int .u64 n] w fun e w' => e = .returned (.tuple #[.agg #[.int .u64 x, .int .u64 y], .int .u64 r]) ∧ Below w.heap.size w w') ∧
    (∀ w, Calls Try.prog 43 #[.agg #[.int .u64 a, .int .u64 b], .int .u64 n] w fun e w' => e = .returned (.tuple #[.agg #[.int .u64 x, .int .u64 y], .int .u64 r]) ∧ Below w.heap.size w w') := by
  rcases Nat.eq_zero_or_pos n with h | h
  · subst h
    exact ⟨0, 0, 0, fun w => div_zero a b w, fun w => rdiv_zero a b w⟩
  · exact ⟨_, _, _, fun w => div_any a b n _ w h rfl ha hb hn, fun w => rdiv_any a b n _ w h rfl ha hb hn⟩

set_option maxHeartbeats 800000 in
theorem walk_WideDivs (a b n : Nat) (w : World) (ha : a ≤ 18446744073709551615) (hb : b ≤ 18446744073709551615) (hn : n ≤ 18446744073709551615) :
    Calls Try.prog 10 #[.agg #[.int .u64 a, .int .u64 b], .int .u64 n] w fun e w' => e = .returned (.bool true) ∧ Below w.heap.size w w' := by
  obtain ⟨x, y, r, k1, k2⟩ := both_div a b n ha hb hn
  have C1 := Lib.hid k1
  have C2 := Lib.hid k2
  clear k1 k2
  go_enter Try.func10, Try.ntmps10
  go_wp2_with fail
  refine (C1.out _).mono ?_
  rintro e w1 ⟨rfl, b1⟩
  have TA := Lib.hid ((Two.new w (a : Int) (b : Int)).below b1)
  have B1 := Lib.hid (below_al b1)
  clear b1
  obtain ⟨a0, a1⟩ := TA.out.alloc (.cells #[.int .u64 x, .int .u64 y] 49)
  go_wp2_with fail
  refine (C2.out _).mono ?_
  rintro e w2 ⟨rfl, b2⟩
  have T1 := Lib.hid ((Two.new w1 (x : Int) (y : Int)).below b2)
  have B2 := Lib.hid (below_both B1.out (below_al b2))
  clear b2 a0 a1 TA
  go_wp2_with fail
  refine (live2 _).mono ?_
  rintro e w3 ⟨rfl, b3⟩
  obtain ⟨c0, c1⟩ := (T1.out.alloc (.cells #[.int .u64 x, .int .u64 y] 49)).below b3
  obtain ⟨d0, d1⟩ := (Two.new w2 (x : Int) (y : Int)).below b3
  have B3 := Lib.hid (below_both B2.out (below_al b3))
  clear b3 T1
  go_wp2_with fail
  go_ret
  exact ⟨by simp, B3.out⟩
end Go.Proofs.Ytbnheffeojnjdaa
