/-
  The examples of layer 9 come out as they must: the contract of weighbridgelaw09.live.
-/
import Derived.Test.YtdeoeikpooonlaaDoorPt3
namespace Go.Proofs.YtdeoeikpooonlaaDoor
open Go.RowKit
set_option linter.unusedVariables false

theorem l9_split (w : World) : Calls Tryd.prog 11 #[.int .u8 185] w fun e w' => e = .returned (.tuple #[.int .i64 46, .int .i64 1]) ∧ w = w' := ptsplit_any 185 w (by decide)
theorem l9_join (w : World) : Calls Tryd.prog 13 #[.int .i64 46, .int .i64 1] w fun e w' => e = .returned (.tuple #[.int .u8 185, .int .i64 0]) ∧ w = w' := ptjoin_any 46 1 w
theorem l9_join2 (w : World) : Calls Tryd.prog 13 #[.int .i64 64, .int .i64 9] w fun e w' => e = .returned (.tuple #[.int .u8 0, .int .i64 14]) ∧ w = w' := ptjoin_any 64 9 w
theorem l9_join3 (w : World) : Calls Tryd.prog 13 #[.int .i64 63, .int .i64 4] w fun e w' => e = .returned (.tuple #[.int .u8 0, .int .i64 1]) ∧ w = w' := ptjoin_any 63 4 w
theorem l9_af (w : World) : Calls Tryd.prog 15 #[.int .i64 4, .int .i64 3] w fun e w' => e = .returned (.tuple #[.int .i64 38, .int .i64 0]) ∧ w = w' := ptaf_yes 4 3 w (by decide) (by decide) (by decide) (by decide)
theorem l9_is (s : ByteArray) (a b : Nat) (w : World) (hT : Pow w) (h : ptParse s.data.toList = (a, b)) : Calls Tryd.prog 18 #[.string s] w fun e w' => e = .returned (.tuple #[.int .i64 (a : Nat), .int .i64 (b : Nat)]) ∧ Below w.heap.size w w' := by
  refine (ptparse_any s w hT).mono ?_
  rintro e w' ⟨he, hb⟩
  rw [h] at he
  exact ⟨he, hb⟩
theorem l9_p0 (w : World) (hT : Pow w) : Calls Tryd.prog 18 #[.string ⟨#[97, 102, 52, 51]⟩] w fun e w' => e = .returned (.tuple #[.int .i64 38, .int .i64 0]) ∧ Below w.heap.size w w' := l9_is ⟨#[97, 102, 52, 51]⟩ 38 0 w hT (by decide +kernel)
theorem l9_p1 (w : World) (hT : Pow w) : Calls Tryd.prog 18 #[.string ⟨#[51, 56]⟩] w fun e w' => e = .returned (.tuple #[.int .i64 38, .int .i64 0]) ∧ Below w.heap.size w w' := l9_is ⟨#[51, 56]⟩ 38 0 w hT (by decide +kernel)
theorem l9_p2 (w : World) (hT : Pow w) : Calls Tryd.prog 18 #[.string ⟨#[54, 52]⟩] w fun e w' => e = .returned (.tuple #[.int .i64 0, .int .i64 14]) ∧ Below w.heap.size w w' := l9_is ⟨#[54, 52]⟩ 0 14 w hT (by decide +kernel)
theorem l9_p3 (w : World) (hT : Pow w) : Calls Tryd.prog 18 #[.string ⟨#[65, 70, 52, 51]⟩] w fun e w' => e = .returned (.tuple #[.int .i64 0, .int .i64 3]) ∧ Below w.heap.size w w' := l9_is ⟨#[65, 70, 52, 51]⟩ 0 3 w hT (by decide +kernel)
theorem l9_n46 (w : World) (hT : Pow w) : Calls Tryd.prog 24 #[.int .i64 46] w fun e w' => e = .returned (.string ⟨#[101, 102]⟩) ∧ Below w.heap.size w w' := by
  have h : ptName ((46 : Nat) : Int) = ⟨#[101, 102]⟩ := by rw [ptName_nat]; decide +kernel
  have k := ptname_any ((46 : Nat) : Int) w (by decide) (by decide) hT
  rw [h] at k
  exact k
theorem l9_n8 (w : World) (hT : Pow w) : Calls Tryd.prog 24 #[.int .i64 8] w fun e w' => e = .returned (.string ⟨#[99, 115, 49]⟩) ∧ Below w.heap.size w w' := by
  have h : ptName ((8 : Nat) : Int) = ⟨#[99, 115, 49]⟩ := by rw [ptName_nat]; decide +kernel
  have k := ptname_any ((8 : Nat) : Int) w (by decide) (by decide) hT
  rw [h] at k
  exact k
theorem l9_n3 (w : World) (hT : Pow w) : Calls Tryd.prog 24 #[.int .i64 3] w fun e w' => e = .returned (.string ⟨#[51]⟩) ∧ Below w.heap.size w w' := by
  have h : ptName ((3 : Nat) : Int) = ⟨#[51]⟩ := by rw [ptName_nat]; decide +kernel
  have k := ptname_any ((3 : Nat) : Int) w (by decide) (by decide) hT
  rw [h] at k
  exact k
theorem l9_sort (w : World) : Calls Tryd.prog 20 #[.int .i64 44] w fun e w' => e = .returned (.string ⟨#[118, 111, 105, 99, 101]⟩) ∧ w = w' := ptsort_any 44 w (by decide) (by decide)
theorem l9_c38 (w : World) : Calls Tryd.prog 22 #[.int .i64 38] w fun e w' => e = .returned (.int .i64 3) ∧ w = w' := ptprec_any 38 w (by decide) (by decide)
theorem l9_c46 (w : World) : Calls Tryd.prog 22 #[.int .i64 46] w fun e w' => e = .returned (.int .i64 0) ∧ w = w' := ptprec_any 46 w (by decide) (by decide)

set_option maxRecDepth 10000 in
set_option maxHeartbeats 3200000 in
theorem live9 (w : World) (hT : Pow w) : Calls Tryd.prog 17 #[] w fun e w' => e = .returned (.bool true) ∧ Below w.heap.size w w' := by
  have HT := Lib.hid hT
  clear hT
  have B0 : Hid (Below w.heap.size w w) := Below.refl _ _
  go_enter Tryd.func17, Tryd.ntmps17
  go_wp2_with fail
  refine (l9_split _).mono ?_
  rintro e w' ⟨rfl, rfl⟩
  go_wp2_with fail
  refine (l9_join _).mono ?_
  rintro e w' ⟨rfl, rfl⟩
  go_wp2_with fail
  refine (l9_join2 _).mono ?_
  rintro e w' ⟨rfl, rfl⟩
  go_wp2_with fail
  refine (l9_join3 _).mono ?_
  rintro e w' ⟨rfl, rfl⟩
  go_wp2_with fail
  refine (l9_af _).mono ?_
  rintro e w' ⟨rfl, rfl⟩
  go_wp2_with fail
  refine (l9_p0 _ (HT.out.below B0.out)).mono ?_
  rintro e w1 ⟨rfl, hb⟩
  have B1 := Lib.hid (below_both B0.out hb)
  clear hb
  go_wp2_with fail
  refine (l9_p1 _ (HT.out.below B1.out)).mono ?_
  rintro e w2 ⟨rfl, hb⟩
  have B2 := Lib.hid (below_both B1.out hb)
  clear hb
  go_wp2_with fail
  refine (l9_p2 _ (HT.out.below B2.out)).mono ?_
  rintro e w3 ⟨rfl, hb⟩
  have B3 := Lib.hid (below_both B2.out hb)
  clear hb
  go_wp2_with fail
  refine (l9_p3 _ (HT.out.below B3.out)).mono ?_
  rintro e w4 ⟨rfl, hb⟩
  have B4 := Lib.hid (below_both B3.out hb)
  clear hb
  go_wp2_with fail
  refine (l9_n46 _ (HT.out.below B4.out)).mono ?_
  rintro e w5 ⟨rfl, hb⟩
  have B5 := Lib.hid (below_both B4.out hb)
  clear hb
  go_wp2_with fail
  refine (l9_n8 _ (HT.out.below B5.out)).mono ?_
  rintro e w6 ⟨rfl, hb⟩
  have B6 := Lib.hid (below_both B5.out hb)
  clear hb
  go_wp2_with fail
  refine (l9_n3 _ (HT.out.below B6.out)).mono ?_
  rintro e w7 ⟨rfl, hb⟩
  have B7 := Lib.hid (below_both B6.out hb)
  clear hb
  go_wp2_with fail
  refine (l9_sort _).mono ?_
  rintro e w' ⟨rfl, rfl⟩
  go_wp2_with fail
  refine (l9_c38 _).mono ?_
  rintro e w' ⟨rfl, rfl⟩
  go_wp2_with fail
  refine (l9_c46 _).mono ?_
  rintro e w' ⟨rfl, rfl⟩
  go_wp2_with fail
  go_ret
  exact ⟨by simp, B7.out⟩
end Go.Proofs.YtdeoeikpooonlaaDoor
