/-
  What must be whatever is asked, of layer 27.
-/
import Derived.Test.YtdeehkhdmohalaaDb3
namespace Go.Proofs.Ytdeehkhdmohalaa
open Go.RowKit
set_option linter.unusedVariables false
attribute [local go_sem ↓] Go.wp_at_zero Go.wp_at_succ

set_option maxRecDepth 10000 in
set_option maxHeartbeats 6400000 in
theorem live27 (w : World) : Calls Try.prog 10 #[] w fun e w' => e = .returned (.bool true) ∧ Below w.heap.size w w' := by
  have CN : Hid (∀ w, Calls Try.prog 6 #[.agg #[.int .i64 2, .bool false, .int .u64 1000, .int .u64 2000, .int .u64 1000, .int .u64 1500]] w fun e w' => e = .returned (.tuple #[.agg #[.int .u64 1000000000000, .int .u64 1500000000000, .int .u64 0, .bool false], .int .i64 0]) ∧ Below w.heap.size w w') := fun w => dbnew_any ⟨2, false, 1000, 2000, 1000, 1500⟩ 0 ⟨1000000000000, 1500000000000, 0, false⟩ w (Lib.hid (by kernel_rfl)) (Lib.hid (by kernel_rfl))
  have C1 : Hid (∀ w, Calls Try.prog 8 #[.agg #[.int .i64 2, .bool false, .int .u64 1000, .int .u64 2000, .int .u64 1000, .int .u64 1500], .agg #[.int .u64 1000000000000, .int .u64 1500000000000, .int .u64 0, .bool false], .int .u64 5, .int .i64 800, .int .i64 2] w fun e w' => e = .returned (.tuple #[.agg #[.int .u64 200000000000, .int .u64 700000000000, .int .u64 5, .bool true], .int .i64 0]) ∧ Below w.heap.size w w') := fun w => dbstep_any ⟨2, false, 1000, 2000, 1000, 1500⟩ ⟨1000000000000, 1500000000000, 0, false⟩ 5 800 2 ⟨200000000000, 700000000000, 5, true⟩ 0 w ⟨by unfold I64k; decide, by decide, by decide, by decide, by decide⟩ ⟨by decide, by decide, by decide⟩ (by decide) (by decide) (Lib.hid (by kernel_rfl))
  have C2 : Hid (∀ w, Calls Try.prog 8 #[.agg #[.int .i64 2, .bool false, .int .u64 1000, .int .u64 2000, .int .u64 1000, .int .u64 1500], .agg #[.int .u64 200000000000, .int .u64 700000000000, .int .u64 5, .bool true], .int .u64 5, .int .i64 700, .int .i64 0] w fun e w' => e = .returned (.tuple #[.agg #[.int .u64 200000000000, .int .u64 0, .int .u64 5, .bool true], .int .i64 1]) ∧ Below w.heap.size w w') := fun w => dbstep_any ⟨2, false, 1000, 2000, 1000, 1500⟩ ⟨200000000000, 700000000000, 5, true⟩ 5 700 0 ⟨200000000000, 0, 5, true⟩ 1 w ⟨by unfold I64k; decide, by decide, by decide, by decide, by decide⟩ ⟨by decide, by decide, by decide⟩ (by decide) (by decide) (Lib.hid (by kernel_rfl))
  have C3 : Hid (∀ w, Calls Try.prog 8 #[.agg #[.int .i64 2, .bool false, .int .u64 1000, .int .u64 2000, .int .u64 1000, .int .u64 1500], .agg #[.int .u64 200000000000, .int .u64 0, .int .u64 5, .bool true], .int .u64 5, .int .i64 1, .int .i64 0] w fun e w' => e = .returned (.tuple #[.agg #[.int .u64 200000000000, .int .u64 0, .int .u64 5, .bool true], .int .i64 2]) ∧ Below w.heap.size w w') := fun w => dbstep_any ⟨2, false, 1000, 2000, 1000, 1500⟩ ⟨200000000000, 0, 5, true⟩ 5 1 0 ⟨200000000000, 0, 5, true⟩ 2 w ⟨by unfold I64k; decide, by decide, by decide, by decide, by decide⟩ ⟨by decide, by decide, by decide⟩ (by decide) (by decide) (Lib.hid (by kernel_rfl))
  have C4 : Hid (∀ w, Calls Try.prog 8 #[.agg #[.int .i64 2, .bool false, .int .u64 1000, .int .u64 2000, .int .u64 1000, .int .u64 1500], .agg #[.int .u64 200000000000, .int .u64 0, .int .u64 5, .bool true], .int .u64 250000005, .int .i64 450, .int .i64 0] w fun e w' => e = .returned (.tuple #[.agg #[.int .u64 0, .int .u64 50000000000, .int .u64 250000005, .bool true], .int .i64 0]) ∧ Below w.heap.size w w') := fun w => dbstep_any ⟨2, false, 1000, 2000, 1000, 1500⟩ ⟨200000000000, 0, 5, true⟩ 250000005 450 0 ⟨0, 50000000000, 250000005, true⟩ 0 w ⟨by unfold I64k; decide, by decide, by decide, by decide, by decide⟩ ⟨by decide, by decide, by decide⟩ (by decide) (by decide) (Lib.hid (by kernel_rfl))
  have C5 : Hid (∀ w, Calls Try.prog 8 #[.agg #[.int .i64 2, .bool true, .int .u64 1000, .int .u64 2000, .int .u64 1000, .int .u64 1500], .agg #[.int .u64 1000000000000, .int .u64 1500000000000, .int .u64 0, .bool false], .int .u64 5, .int .i64 100, .int .i64 1] w fun e w' => e = .returned (.tuple #[.agg #[.int .u64 1000000000000, .int .u64 1400000000000, .int .u64 5, .bool true], .int .i64 1]) ∧ Below w.heap.size w w') := fun w => dbstep_any ⟨2, true, 1000, 2000, 1000, 1500⟩ ⟨1000000000000, 1500000000000, 0, false⟩ 5 100 1 ⟨1000000000000, 1400000000000, 5, true⟩ 1 w ⟨by unfold I64k; decide, by decide, by decide, by decide, by decide⟩ ⟨by decide, by decide, by decide⟩ (by decide) (by decide) (Lib.hid (by kernel_rfl))
  have D1 : Hid (∀ w, Calls Try.prog 11 #[.agg #[.int .i64 0, .bool false, .int .u64 0, .int .u64 0, .int .u64 0, .int .u64 0]] w fun e w' => e = .returned (.int .i64 10) ∧ Below w.heap.size w w') := fun w => dbcheck_any ⟨0, false, 0, 0, 0, 0⟩ 10 w (Lib.hid (by kernel_rfl))
  have D2 : Hid (∀ w, Calls Try.prog 11 #[.agg #[.int .i64 2, .bool false, .int .u64 1, .int .u64 0, .int .u64 0, .int .u64 0]] w fun e w' => e = .returned (.int .i64 16) ∧ Below w.heap.size w w') := fun w => dbcheck_any ⟨2, false, 1, 0, 0, 0⟩ 16 w (Lib.hid (by kernel_rfl))
  have D3 : Hid (∀ w, Calls Try.prog 11 #[.agg #[.int .i64 2, .bool false, .int .u64 0, .int .u64 0, .int .u64 1, .int .u64 0]] w fun e w' => e = .returned (.int .i64 17) ∧ Below w.heap.size w w') := fun w => dbcheck_any ⟨2, false, 0, 0, 1, 0⟩ 17 w (Lib.hid (by kernel_rfl))
  have E1 : ∀ w, (Op.equalIn 10000 26 (.agg #[.int .u64 1000000000000, .int .u64 1500000000000, .int .u64 0, .bool false]) (.agg #[.int .u64 1000000000000, .int .u64 1500000000000, .int .u64 0, .bool false])).run Try.prog w = .ok true w := fun w => level_same (s := ⟨1000000000000, 1500000000000, 0, false⟩) ⟨by decide, by decide, by decide⟩ w
  have E2 : ∀ w, (Op.equalIn 10000 26 (.agg #[.int .u64 200000000000, .int .u64 700000000000, .int .u64 5, .bool true]) (.agg #[.int .u64 200000000000, .int .u64 700000000000, .int .u64 5, .bool true])).run Try.prog w = .ok true w := fun w => level_same (s := ⟨200000000000, 700000000000, 5, true⟩) ⟨by decide, by decide, by decide⟩ w
  have E3 : ∀ w, (Op.equalIn 10000 26 (.agg #[.int .u64 200000000000, .int .u64 0, .int .u64 5, .bool true]) (.agg #[.int .u64 200000000000, .int .u64 0, .int .u64 5, .bool true])).run Try.prog w = .ok true w := fun w => level_same (s := ⟨200000000000, 0, 5, true⟩) ⟨by decide, by decide, by decide⟩ w
  have E4 : ∀ w, (Op.equalIn 10000 26 (.agg #[.int .u64 0, .int .u64 50000000000, .int .u64 250000005, .bool true]) (.agg #[.int .u64 0, .int .u64 50000000000, .int .u64 250000005, .bool true])).run Try.prog w = .ok true w := fun w => level_same (s := ⟨0, 50000000000, 250000005, true⟩) ⟨by decide, by decide, by decide⟩ w
  go_enter Try.func10, Try.ntmps10
  have K0 := Lib.hid (KV.one w 24 [.int .i64 2, .bool false, .int .u64 1000, .int .u64 2000, .int .u64 1000, .int .u64 1500])
  have m0 := (K0.out.at 0 rfl).get 0
  have m1 := (K0.out.at 0 rfl).get 1
  have m2 := (K0.out.at 0 rfl).get 2
  have m3 := (K0.out.at 0 rfl).get 3
  have m4 := (K0.out.at 0 rfl).get 4
  have m5 := (K0.out.at 0 rfl).get 5
  simp at m0 m1 m2 m3 m4 m5
  go_wp2_with fail
  refine (CN.out _).mono ?_
  rintro e w1 ⟨rfl, b1⟩
  have K1 := Lib.hid ((K0.out.below b1).new 26 [.int .u64 1000000000000, .int .u64 1500000000000, .int .u64 0, .bool false])
  clear b1 K0 m0 m1 m2 m3 m4 m5
  have m0 := (K1.out.at 0 rfl).get 0
  have m1 := (K1.out.at 0 rfl).get 1
  have m2 := (K1.out.at 0 rfl).get 2
  have m3 := (K1.out.at 0 rfl).get 3
  have m4 := (K1.out.at 0 rfl).get 4
  have m5 := (K1.out.at 0 rfl).get 5
  simp at m0 m1 m2 m3 m4 m5
  have s0 := (K1.out.at 1 rfl).get 0
  have s1 := (K1.out.at 1 rfl).get 1
  have s2 := (K1.out.at 1 rfl).get 2
  have s3 := (K1.out.at 1 rfl).get 3
  simp at s0 s1 s2 s3
  go_wp2_with fail
  refine (C1.out _).mono ?_
  rintro e w2 ⟨rfl, b2⟩
  have K2 := Lib.hid ((K1.out.below b2).new 26 [.int .u64 200000000000, .int .u64 700000000000, .int .u64 5, .bool true])
  clear b2 K1 m0 m1 m2 m3 m4 m5 s0 s1 s2 s3
  have m0 := (K2.out.at 0 rfl).get 0
  have m1 := (K2.out.at 0 rfl).get 1
  have m2 := (K2.out.at 0 rfl).get 2
  have m3 := (K2.out.at 0 rfl).get 3
  have m4 := (K2.out.at 0 rfl).get 4
  have m5 := (K2.out.at 0 rfl).get 5
  simp at m0 m1 m2 m3 m4 m5
  have s0 := (K2.out.at 2 rfl).get 0
  have s1 := (K2.out.at 2 rfl).get 1
  have s2 := (K2.out.at 2 rfl).get 2
  have s3 := (K2.out.at 2 rfl).get 3
  simp at s0 s1 s2 s3
  go_wp2_with fail
  refine (C2.out _).mono ?_
  rintro e w3 ⟨rfl, b3⟩
  have K3 := Lib.hid ((K2.out.below b3).new 26 [.int .u64 200000000000, .int .u64 0, .int .u64 5, .bool true])
  clear b3 K2 m0 m1 m2 m3 m4 m5 s0 s1 s2 s3
  have m0 := (K3.out.at 0 rfl).get 0
  have m1 := (K3.out.at 0 rfl).get 1
  have m2 := (K3.out.at 0 rfl).get 2
  have m3 := (K3.out.at 0 rfl).get 3
  have m4 := (K3.out.at 0 rfl).get 4
  have m5 := (K3.out.at 0 rfl).get 5
  simp at m0 m1 m2 m3 m4 m5
  have s0 := (K3.out.at 3 rfl).get 0
  have s1 := (K3.out.at 3 rfl).get 1
  have s2 := (K3.out.at 3 rfl).get 2
  have s3 := (K3.out.at 3 rfl).get 3
  simp at s0 s1 s2 s3
  go_wp2_with fail
  refine (C3.out _).mono ?_
  rintro e w4 ⟨rfl, b4⟩
  have K4 := Lib.hid ((K3.out.below b4).new 26 [.int .u64 200000000000, .int .u64 0, .int .u64 5, .bool true])
  clear b4 K3 m0 m1 m2 m3 m4 m5 s0 s1 s2 s3
  have m0 := (K4.out.at 0 rfl).get 0
  have m1 := (K4.out.at 0 rfl).get 1
  have m2 := (K4.out.at 0 rfl).get 2
  have m3 := (K4.out.at 0 rfl).get 3
  have m4 := (K4.out.at 0 rfl).get 4
  have m5 := (K4.out.at 0 rfl).get 5
  simp at m0 m1 m2 m3 m4 m5
  have s0 := (K4.out.at 4 rfl).get 0
  have s1 := (K4.out.at 4 rfl).get 1
  have s2 := (K4.out.at 4 rfl).get 2
  have s3 := (K4.out.at 4 rfl).get 3
  simp at s0 s1 s2 s3
  go_wp2_with fail
  refine (C4.out _).mono ?_
  rintro e w5 ⟨rfl, b5⟩
  have K5 := Lib.hid ((K4.out.below b5).new 26 [.int .u64 0, .int .u64 50000000000, .int .u64 250000005, .bool true])
  clear b5 K4 m0 m1 m2 m3 m4 m5 s0 s1 s2 s3
  have f1 := (K5.out.at 0 rfl).frozen 1
  have v1 := (K5.out.at 0 rfl).get 1
  simp at v1
  have K6 := Lib.hid (K5.out.put 0 rfl 1 (.bool true))
  go_upto_region 8 with fail
  clear f1 v1 K5
  generalize World.setCell _ _ _ = W6 at *
  have m0 := (K6.out.at 0 rfl).get 0
  have m1 := (K6.out.at 0 rfl).get 1
  have m2 := (K6.out.at 0 rfl).get 2
  have m3 := (K6.out.at 0 rfl).get 3
  have m4 := (K6.out.at 0 rfl).get 4
  have m5 := (K6.out.at 0 rfl).get 5
  simp at m0 m1 m2 m3 m4 m5
  have s0 := (K6.out.at 1 rfl).get 0
  have s1 := (K6.out.at 1 rfl).get 1
  have s2 := (K6.out.at 1 rfl).get 2
  have s3 := (K6.out.at 1 rfl).get 3
  simp at s0 s1 s2 s3
  go_wp2_with fail
  refine (C5.out _).mono ?_
  rintro e w7 ⟨rfl, b7⟩
  have K7 := Lib.hid ((K6.out.below b7).new 26 [.int .u64 1000000000000, .int .u64 1400000000000, .int .u64 5, .bool true])
  clear b7 K6 m0 m1 m2 m3 m4 m5 s0 s1 s2 s3
  have s0 := (K7.out.at 1 rfl).get 0
  have s1 := (K7.out.at 1 rfl).get 1
  have s2 := (K7.out.at 1 rfl).get 2
  have s3 := (K7.out.at 1 rfl).get 3
  simp at s0 s1 s2 s3
  have a0 := (K7.out.at 2 rfl).get 0
  have a1 := (K7.out.at 2 rfl).get 1
  have a2 := (K7.out.at 2 rfl).get 2
  have a3 := (K7.out.at 2 rfl).get 3
  simp at a0 a1 a2 a3
  have b0 := (K7.out.at 3 rfl).get 0
  have b1 := (K7.out.at 3 rfl).get 1
  have b2 := (K7.out.at 3 rfl).get 2
  have b3 := (K7.out.at 3 rfl).get 3
  simp at b0 b1 b2 b3
  have c0 := (K7.out.at 4 rfl).get 0
  have c1 := (K7.out.at 4 rfl).get 1
  have c2 := (K7.out.at 4 rfl).get 2
  have c3 := (K7.out.at 4 rfl).get 3
  simp at c0 c1 c2 c3
  have d0 := (K7.out.at 5 rfl).get 0
  have d1 := (K7.out.at 5 rfl).get 1
  have d2 := (K7.out.at 5 rfl).get 2
  have d3 := (K7.out.at 5 rfl).get 3
  simp at d0 d1 d2 d3
  go_wp2_with fail
  refine (D1.out _).mono ?_
  rintro e w8 ⟨rfl, b8⟩
  have K8 := Lib.hid (K7.out.below b8)
  clear b8 K7 s0 s1 s2 s3 a0 a1 a2 a3 b0 b1 b2 b3 c0 c1 c2 c3 d0 d1 d2 d3
  go_wp2_with fail
  refine (D2.out _).mono ?_
  rintro e w9 ⟨rfl, b9⟩
  have K9 := Lib.hid (K8.out.below b9)
  clear b9 K8
  go_wp2_with fail
  refine (D3.out _).mono ?_
  rintro e w10 ⟨rfl, b10⟩
  have K10 := Lib.hid (K9.out.below b10)
  clear b10 K9
  go_wp2_with fail
  go_ret
  exact ⟨rfl, K10.out.bel⟩
end Go.Proofs.Ytdeehkhdmohalaa