/-
  The walk of the statement OctetGets.
-/
import Derived.Test.YtbnheffeojnjdaaAgree1
import Derived.Test.YtbnheffeojnjdaaLive1
namespace Go.Proofs.Ytbnheffeojnjdaa
open Go.RowKit
set_option linter.unusedVariables false

set_option maxHeartbeats 400000 in
theorem walk_OctetGets (a0 : Option Addr) (len0 cap0 : Nat) (bs0 : List Nat) (n1 n2 : Int) (w : World) (R0 : Row w a0 len0 bs0) (hl0 : len0 ≤ cap0) (hc0 : cap0 ≤ 140737488351232)
    (lo1 : -9223372036854775808 ≤ n1) (hi1 : n1 ≤ 9223372036854775807) (lo2 : -9223372036854775808 ≤ n2) (hi2 : n2 ≤ 9223372036854775807) :
    Calls Try.prog 3 #[.slice a0 len0 cap0, .int .i64 n1, .int .i64 n2] w fun e w' => e = .returned (.bool true) ∧ Below w.heap.size w w' := by
  obtain ⟨x, y, g1, g2⟩ := get_agree a0 len0 cap0 n1 n2 bs0 hl0 hc0 hi1
  obtain ⟨l, z, hl, c1, c2⟩ := cut_agree a0 len0 cap0 n1 n2 bs0 R0.2.1 hl0 hc0
  have G1 := Lib.hid g1
  have G2 := Lib.hid g2
  have C1 := Lib.hid c1
  have C2 := Lib.hid c2
  have R := Lib.hid R0
  have HL := Lib.hid hl
  clear g1 g2 c1 c2 R0 hl
  go_enter Try.func3, Try.ntmps3
  go_wp2_with fail
  refine (G1.out _ R.out).mono ?_
  rintro e w1 ⟨rfl, rfl⟩
  go_wp2_with fail
  refine (G2.out _ R.out).mono ?_
  rintro e w1 ⟨rfl, rfl⟩
  go_wp2_with fail
  refine (C1.out _ R.out).mono ?_
  rintro e w1 ⟨v1, rfl, r1, b1⟩
  have R1 := Lib.hid r1
  have B1 := Lib.hid b1
  clear r1 b1
  go_wp2_with fail
  refine (C2.out _ (R.out.below B1.out)).mono ?_
  rintro e w2 ⟨v2, rfl, r2, b2⟩
  have R1 := Lib.hid (R1.out.below b2)
  have R2 := Lib.hid r2
  have B2 := Lib.hid (below_both B1.out b2)
  clear r2 b2 B1
  go_wp2_with fail
  refine (live1 _).mono ?_
  rintro e w3 ⟨rfl, b3⟩
  have R1 := Lib.hid (R1.out.below b3)
  have R2 := Lib.hid (R2.out.below b3)
  have B3 := Lib.hid (below_both B2.out b3)
  clear b3 B2
  go_wp2_with fail
  refine (same_vals _ _ l _ HL.out R1.out R2.out).mono ?_
  rintro e w4 ⟨rfl, b4⟩
  have B4 := Lib.hid (below_both B3.out b4)
  clear b4 B3 R1 R2
  go_wp2
  go_ret
  exact ⟨rfl, B4.out⟩
end Go.Proofs.Ytbnheffeojnjdaa
