/-
  The examples of layer 24 come out as they must, in whatever world: the contract of weighbridgelaw24.live.
-/
import Derived.Test.YtmgjaghmnnipbaaBk1
namespace Go.Proofs.Ytmgjaghmnnipbaa
open Go.RowKit
set_option linter.unusedVariables false

theorem l24_f1 (w : World) : Calls Try.prog 10 #[.int .u64 4294967296] w fun e w' => e = .returned (.tuple #[.int .u64 4294967296000000000, .int .i64 0]) ∧ Below w.heap.size w w' :=
  bkfull_ok 4294967296 4294967296000000000 w (by decide) (by decide : 4294967296000000000 = 1000000000 * 4294967296)
theorem l24_f2 (w : World) : Calls Try.prog 10 #[.int .u64 4294967297] w fun e w' => e = .returned (.tuple #[.int .u64 0, .int .i64 17]) ∧ Below w.heap.size w w' :=
  bkfull_no 4294967297 w (by decide)
theorem l24_g1 (w : World) : Calls Try.prog 8 #[.int .u64 5, .int .u64 100, .int .u64 3, .int .u64 40] w fun e w' => e = .returned (.tuple #[.int .u64 100, .agg #[.int .u64 0, .int .u64 25]]) ∧ Below w.heap.size w w' :=
  bkgrow_any 5 100 3 40 0 25 100 w (by decide) (by decide) (by decide) (by decide) (by decide : 100 = 5 + bkPut 5 100 (3 * 40)) (by decide : 0 = whi (3 * 40 - bkPut 5 100 (3 * 40))) (by decide : 25 = wlo (3 * 40 - bkPut 5 100 (3 * 40)))
theorem l24_g2 (w : World) : Calls Try.prog 8 #[.int .u64 200, .int .u64 100, .int .u64 3, .int .u64 40] w fun e w' => e = .returned (.tuple #[.int .u64 200, .agg #[.int .u64 0, .int .u64 120]]) ∧ Below w.heap.size w w' :=
  bkgrow_any 200 100 3 40 0 120 200 w (by decide) (by decide) (by decide) (by decide) (by decide : 200 = 200 + bkPut 200 100 (3 * 40)) (by decide : 0 = whi (3 * 40 - bkPut 200 100 (3 * 40))) (by decide : 120 = wlo (3 * 40 - bkPut 200 100 (3 * 40)))
theorem l24_t1 (w : World) : Calls Try.prog 15 #[.int .u64 3000000000, .int .i64 2] w fun e w' => e = .returned (.tuple #[.int .u64 1000000000, .bool true]) ∧ Below w.heap.size w w' :=
  bktake_any 3000000000 1000000000 2 true w (by decide) (by decide) (by decide : 1000000000 = bkLeft 3000000000 2) (by decide : true = bkCan 3000000000 2)
theorem l24_t2 (w : World) : Calls Try.prog 15 #[.int .u64 999999999, .int .i64 1] w fun e w' => e = .returned (.tuple #[.int .u64 999999999, .bool false]) ∧ Below w.heap.size w w' :=
  bktake_any 999999999 999999999 1 false w (by decide) (by decide) (by decide : 999999999 = bkLeft 999999999 1) (by decide : false = bkCan 999999999 1)
theorem l24_w1 (w : World) : Calls Try.prog 17 #[.int .u64 500000000, .int .u64 5000000000, .int .u64 3, .int .i64 1] w fun e w' => e = .returned (.tuple #[.int .u64 166666667, .bool true]) ∧ Below w.heap.size w w' :=
  bkwait_any 500000000 5000000000 3 166666667 1 true w (by decide) (by decide) (by decide) (by decide) (by decide : 166666667 = bkTime 500000000 5000000000 3 1) (by decide : true = bkWill 500000000 5000000000 3 1)
theorem l24_w2 (w : World) : Calls Try.prog 17 #[.int .u64 0, .int .u64 5000000000, .int .u64 3, .int .i64 6] w fun e w' => e = .returned (.tuple #[.int .u64 0, .bool false]) ∧ Below w.heap.size w w' :=
  bkwait_any 0 5000000000 3 0 6 false w (by decide) (by decide) (by decide) (by decide) (by decide : 0 = bkTime 0 5000000000 3 6) (by decide : false = bkWill 0 5000000000 3 6)
theorem l24_n1 (w : World) : Calls Try.prog 13 #[.int .i64 4611686018427387904] w fun e w' => e = .returned (.tuple #[.int .u64 0, .bool false]) ∧ Below w.heap.size w w' :=
  bkneed_any 4611686018427387904 0 false w (by decide) (by decide : 0 = bkN 4611686018427387904) (by decide : false = bkIs 4611686018427387904)
set_option maxHeartbeats 1600000 in
theorem live24 (w : World) : Calls Try.prog 12 #[] w fun e w' => e = .returned (.bool true) ∧ Below w.heap.size w w' := by
  go_enter Try.func12, Try.ntmps12
  have K0 := Lib.hid (KV.nil w)
  go_wp2_with fail
  refine (l24_f1 _).mono ?_
  rintro e w1 ⟨rfl, b1⟩
  have K1 := Lib.hid (K0.out.below b1)
  clear b1 K0
  go_wp2_with fail
  refine (l24_f2 _).mono ?_
  rintro e w2 ⟨rfl, b2⟩
  have K2 := Lib.hid (K1.out.below b2)
  clear b2 K1
  go_wp2_with fail
  refine (l24_g1 _).mono ?_
  rintro e w3 ⟨rfl, b3⟩
  have K3 := Lib.hid (K2.out.below b3)
  clear b3 K2
  have K3 := Lib.hid (K3.out.new 25 [.int .u64 0, .int .u64 25])
  go_wp2_with fail
  refine (l24_g2 _).mono ?_
  rintro e w4 ⟨rfl, b4⟩
  have K4 := Lib.hid (K3.out.below b4)
  clear b4 K3
  have K4 := Lib.hid (K4.out.new 25 [.int .u64 0, .int .u64 120])
  go_wp2_with fail
  refine (l24_t1 _).mono ?_
  rintro e w5 ⟨rfl, b5⟩
  have K5 := Lib.hid (K4.out.below b5)
  clear b5 K4
  go_wp2_with fail
  refine (l24_t2 _).mono ?_
  rintro e w6 ⟨rfl, b6⟩
  have K6 := Lib.hid (K5.out.below b6)
  clear b6 K5
  go_wp2_with fail
  refine (l24_w1 _).mono ?_
  rintro e w7 ⟨rfl, b7⟩
  have K7 := Lib.hid (K6.out.below b7)
  clear b7 K6
  go_wp2_with fail
  refine (l24_w2 _).mono ?_
  rintro e w8 ⟨rfl, b8⟩
  have K8 := Lib.hid (K7.out.below b8)
  clear b8 K7
  go_wp2_with fail
  refine (l24_n1 _).mono ?_
  rintro e w9 ⟨rfl, b9⟩
  have K9 := Lib.hid (K8.out.below b9)
  clear b9 K8
  have c0 := (K9.out.at 0 rfl).get 0
  have c1 := (K9.out.at 0 rfl).get 1
  have d0 := (K9.out.at 1 rfl).get 0
  have d1 := (K9.out.at 1 rfl).get 1
  simp at c0 c1 d0 d1
  go_wp2_with fail
  go_ret
  exact ⟨by simp, K9.out.bel⟩
end Go.Proofs.Ytmgjaghmnnipbaa
