/-
  The examples of layer 2 come out as they must, in whatever world: the contract of weighbridgelaw02.live.
-/
import Derived.Test.YtgpdghibkkgonaaWid5
namespace Go.Proofs.Ytgpdghibkkgonaa
open Go.RowKit
set_option linter.unusedVariables false

theorem l2_of1 (w : World) : Calls Try.prog 24 #[.int .u64 1] w fun e w' => e = .returned (.agg #[.int .u64 0, .int .u64 1]) ∧ Below w.heap.size w w' := of_any 1 w
theorem l2_of3 (w : World) : Calls Try.prog 24 #[.int .u64 3] w fun e w' => e = .returned (.agg #[.int .u64 0, .int .u64 3]) ∧ Below w.heap.size w w' := of_any 3 w
theorem l2_of4 (w : World) : Calls Try.prog 24 #[.int .u64 4] w fun e w' => e = .returned (.agg #[.int .u64 0, .int .u64 4]) ∧ Below w.heap.size w w' := of_any 4 w
theorem l2_of5 (w : World) : Calls Try.prog 24 #[.int .u64 5] w fun e w' => e = .returned (.agg #[.int .u64 0, .int .u64 5]) ∧ Below w.heap.size w w' := of_any 5 w

/-- Two words lie in block g. -/
def Two (W : World) (g : Nat) (a b : Int) : Prop := W.cell? ⟨g, 0, none⟩ = some (.int .u64 a) ∧ W.cell? ⟨g, 1, none⟩ = some (.int .u64 b)
theorem Two.new (w : World) (a b : Int) : Two (w.alloc (.cells #[.int .u64 a, .int .u64 b] 24)) w.heap.size a b :=
  ⟨cell_of_row _ w.heap.size 0 _ _ _ (heap_alloc_new w _), cell_of_row _ w.heap.size 1 _ _ _ (heap_alloc_new w _)⟩
theorem Two.below {w w' : World} {g : Nat} {a b : Int} (h : Two w g a b) (hb : Below w.heap.size w w') : Two w' g a b := ⟨carry h.1 hb, carry h.2 hb⟩
theorem Two.alloc {w : World} {g : Nat} {a b : Int} (h : Two w g a b) (o : Obj) : Two (w.alloc o) g a b := h.below ((Below.refl _ _).alloc (Nat.le_refl _) o)
theorem l2_add (w : World) : Calls Try.prog 20 #[.agg #[.int .u64 18446744073709551615, .int .u64 18446744073709551615], .agg #[.int .u64 0, .int .u64 1]] w fun e w' =>
    e = .returned (.tuple #[.agg #[.int .u64 0, .int .u64 0], .bool true]) ∧ Below w.heap.size w w' :=
  add_raw 18446744073709551615 18446744073709551615 0 1 w128 true w (by decide) (by decide) (by decide) (by decide) (by decide : w128 = wnum 18446744073709551615 18446744073709551615 + wnum 0 1) (by decide : true = decide (w128 ≤ w128))
theorem l2_sub (w : World) : Calls Try.prog 21 #[.agg #[.int .u64 0, .int .u64 0], .agg #[.int .u64 0, .int .u64 1]] w fun e w' =>
    e = .returned (.tuple #[.agg #[.int .u64 18446744073709551615, .int .u64 18446744073709551615], .bool true]) ∧ Below w.heap.size w w' :=
  sub_raw 0 0 0 1 (w128 - 1) true w (by decide) (by decide) (by decide) (by decide) (by decide : w128 - 1 = wnum 0 0 + w128 - wnum 0 1) (by decide : true = decide (wnum 0 0 < wnum 0 1))
theorem l2_div (w : World) : Calls Try.prog 23 #[.agg #[.int .u64 1, .int .u64 0], .int .u64 10] w fun e w' =>
    e = .returned (.tuple #[.agg #[.int .u64 0, .int .u64 1844674407370955161], .int .u64 6]) ∧ Below w.heap.size w w' :=
  div_any 1 0 10 18446744073709551616 w (by decide) (by decide : 18446744073709551616 = wnum 1 0) (by decide) (by decide) (by decide)
theorem l2_mul (w : World) : Calls Try.prog 22 #[.int .u64 18446744073709551615, .int .u64 18446744073709551615] w fun e w' =>
    e = .returned (.agg #[.int .u64 18446744073709551614, .int .u64 1]) ∧ Below w.heap.size w w' :=
  mul_any 18446744073709551615 18446744073709551615 w (by decide) (by decide)
theorem l2_most (w : World) : Calls Try.prog 18 #[.agg #[.int .u64 1, .int .u64 0], .int .u64 7] w fun e w' => e = .returned (.int .u64 7) ∧ Below w.heap.size w w' :=
  cap_most 1 0 7 w (by decide) (by decide) (by decide) (by decide : ¬ wnum 1 0 < 7)
theorem l2_less (w : World) : Calls Try.prog 18 #[.agg #[.int .u64 0, .int .u64 5], .int .u64 7] w fun e w' => e = .returned (.int .u64 5) ∧ Below w.heap.size w w' :=
  cap_less 0 5 7 w (by decide) (by decide) (by decide) (by decide : wnum 0 5 < 7)
theorem l2_lt (w : World) : Calls Try.prog 56 #[.agg #[.int .u64 0, .int .u64 3], .agg #[.int .u64 0, .int .u64 4]] w fun e w' => e = .returned (.bool true) ∧ Below w.heap.size w w' :=
  less_yes 0 3 0 4 w (by decide) (by decide) (by decide : wnum 0 3 < wnum 0 4)
theorem l2_text (w : World) : Calls Try.prog 16 #[.agg #[.int .u64 1, .int .u64 0]] w fun e w' =>
    e = .returned (.string ⟨#[49, 56, 52, 52, 54, 55, 52, 52, 48, 55, 51, 55, 48, 57, 53, 53, 49, 54, 49, 54]⟩) ∧ Below w.heap.size w w' :=
  text_any 1 0 18446744073709551616 20 w (by decide : 18446744073709551616 = wnum 1 0) (by decide) (by decide)
    (show HasDigits 18446744073709551616 20 from ⟨by decide, by decide, fun j h1 h2 => by
      match j, h1, h2 with
      | 1, _, _ | 2, _, _ | 3, _, _ | 4, _, _ | 5, _, _ | 6, _, _ | 7, _, _ | 8, _, _ | 9, _, _ | 10, _, _ => decide
      | 11, _, _ | 12, _, _ | 13, _, _ | 14, _, _ | 15, _, _ | 16, _, _ | 17, _, _ | 18, _, _ | 19, _, _ => decide
      | n + 20, _, h => omega⟩) (by decide)

set_option maxHeartbeats 800000 in
theorem live2 (w : World) : Calls Try.prog 15 #[] w fun e w' => e = .returned (.bool true) ∧ Below w.heap.size w w' := by
  go_enter Try.func15, Try.ntmps15
  go_wp2_with fail
  refine (l2_of1 _).mono ?_
  rintro e w1 ⟨rfl, b1⟩
  have B1 := Lib.hid b1
  clear b1
  go_wp2_with fail
  refine (l2_add _).mono ?_
  rintro e w2 ⟨rfl, b2⟩
  have B2 := Lib.hid (below_both B1.out b2)
  clear b2 B1
  go_wp2_with fail
  refine (l2_of1 _).mono ?_
  rintro e w3 ⟨rfl, b3⟩
  have T2 := Lib.hid ((Two.new w2 0 0).below b3)
  have B3 := Lib.hid (below_both B2.out (below_al b3))
  clear b3 B2
  go_wp2_with fail
  refine (l2_sub _).mono ?_
  rintro e w4 ⟨rfl, b4⟩
  have T2 := Lib.hid (T2.out.below b4)
  have B4 := Lib.hid (below_both B3.out b4)
  clear b4 B3
  go_wp2_with fail
  refine (l2_div _).mono ?_
  rintro e w5 ⟨rfl, b5⟩
  have T2 := Lib.hid ((T2.out.alloc (.cells #[.int .u64 18446744073709551615, .int .u64 18446744073709551615] 24)).below b5)
  have T4 := Lib.hid ((Two.new w4 18446744073709551615 18446744073709551615).below b5)
  have B5 := Lib.hid (below_both B4.out (below_al b5))
  clear b5 B4
  obtain ⟨c0, c1⟩ := T2.out.alloc (.cells #[.int .u64 0, .int .u64 1844674407370955161] 24)
  obtain ⟨d0, d1⟩ := T4.out.alloc (.cells #[.int .u64 0, .int .u64 1844674407370955161] 24)
  go_wp2_with fail
  refine (l2_mul _).mono ?_
  rintro e w6 ⟨rfl, b6⟩
  obtain ⟨e0, e1⟩ := (Two.new w5 0 1844674407370955161).below b6
  have B6 := Lib.hid (below_both B5.out (below_al b6))
  clear b6 B5 c0 c1 d0 d1 T2 T4
  go_wp2_with fail
  refine (l2_most _).mono ?_
  rintro e w7 ⟨rfl, b7⟩
  have B7 := Lib.hid (below_both B6.out b7)
  clear b7 B6
  go_wp2_with fail
  refine (l2_of5 _).mono ?_
  rintro e w8 ⟨rfl, b8⟩
  have B8 := Lib.hid (below_both B7.out b8)
  clear b8 B7
  go_wp2_with fail
  refine (l2_less _).mono ?_
  rintro e w9 ⟨rfl, b9⟩
  have B9 := Lib.hid (below_both B8.out b9)
  clear b9 B8
  go_wp2_with fail
  refine (l2_text _).mono ?_
  rintro e w10 ⟨rfl, b10⟩
  have B10 := Lib.hid (below_both B9.out b10)
  clear b10 B9
  go_wp2_with fail
  refine (l2_of3 _).mono ?_
  rintro e w11 ⟨rfl, b11⟩
  have B11 := Lib.hid (below_both B10.out b11)
  clear b11 B10
  go_wp2_with fail
  refine (l2_of4 _).mono ?_
  rintro e w12 ⟨rfl, b12⟩
  have B12 := Lib.hid (below_both B11.out b12)
  clear b12 B11
  go_wp2_with fail
  refine (l2_lt _).mono ?_
  rintro e w13 ⟨rfl, b13⟩
  have B13 := Lib.hid (below_both B12.out b13)
  clear b13 B12
  go_wp2
  go_ret
  exact ⟨rfl, B13.out⟩
end Go.Proofs.Ytgpdghibkkgonaa
