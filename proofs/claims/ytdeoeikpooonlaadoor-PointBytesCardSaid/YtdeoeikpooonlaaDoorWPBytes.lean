/-
  The walk of the statement PointBytes.
-/
import Derived.Test.YtdeoeikpooonlaaDoorLive9
import Derived.Test.YtdeoeikpooonlaaDoorPt4
namespace Go.Proofs.YtdeoeikpooonlaaDoor
open Go.RowKit
set_option linter.unusedVariables false

theorem two_ints {zs : List Int} (h : zs.length = 2) : ∃ a b, zs = [a, b] := by
  match zs, h with
  | [a, b], _ => exact ⟨a, b, rfl⟩
theorem ptJoin_form (d e : Int) : ∃ a b : Int, ptJoin d e = .tuple #[.int .u8 a, .int .i64 b] := by
  unfold ptJoin
  (repeat' split) <;> exact ⟨_, _, rfl⟩
theorem ptAf_form (d e : Int) : ∃ a b : Int, ptAf d e = .tuple #[.int .i64 a, .int .i64 b] := by
  unfold ptAf
  split <;> exact ⟨_, _, rfl⟩
theorem ptJoin_back (n : Nat) (h : n ≤ 255) : ptJoin ((n / 4 : Nat) : Int) ((n % 4 : Nat) : Int) = .tuple #[.int .u8 n, .int .i64 0] := by
  unfold ptJoin
  rw [if_pos (by omega), if_pos (by omega), show 4 * ((n / 4 : Nat) : Int) + ((n % 4 : Nat) : Int) = (n : Int) by omega]
set_option maxRecDepth 10000 in
set_option maxHeartbeats 3200000 in
theorem walk_PointBytes (n : Nat) (zs1 zs2 : List Int) (w : World) (hT : Pow w) (hn : n ≤ 255) (hn1 : zs1.length = 2) (hz1 : ∀ z ∈ zs1, (Lit.int .i64 z).wf = true) (hn2 : zs2.length = 2) (hz2 : ∀ z ∈ zs2, (Lit.int .i64 z).wf = true) :
    Calls Tryd.prog 3 #[.int .u8 n, .agg (zs1.map (Value.int .i64)).toArray, .agg (zs2.map (Value.int .i64)).toArray] w fun e w' => e = .returned (.bool true) ∧ Below w.heap.size w w' := by
  obtain ⟨p0, p1, rfl⟩ := two_ints hn1
  obtain ⟨q0, q1, rfl⟩ := two_ints hn2
  clear hn1 hn2 hz1 hz2
  show Calls Tryd.prog 3 #[.int .u8 n, .agg #[.int .i64 p0, .int .i64 p1], .agg #[.int .i64 q0, .int .i64 q1]] w _
  obtain ⟨a, b, hj⟩ := ptJoin_form p0 p1
  obtain ⟨c, d, ha⟩ := ptAf_form q0 q1
  have C1 := Lib.hid (fun w => ptsplit_any n w hn)
  have C2 := Lib.hid (fun w => rptsplit_any n w hn)
  have C3 : Hid (∀ w, Calls Tryd.prog 13 #[.int .i64 p0, .int .i64 p1] w fun e w' => e = .returned (.tuple #[.int .u8 a, .int .i64 b]) ∧ w = w') := fun w => by rw [← hj]; exact ptjoin_any p0 p1 w
  have C4 : Hid (∀ w, Calls Tryd.prog 14 #[.int .i64 p0, .int .i64 p1] w fun e w' => e = .returned (.tuple #[.int .u8 a, .int .i64 b]) ∧ w = w') := fun w => by rw [← hj]; exact rptjoin_any p0 p1 w
  have C5 : Hid (∀ w, Calls Tryd.prog 15 #[.int .i64 q0, .int .i64 q1] w fun e w' => e = .returned (.tuple #[.int .i64 c, .int .i64 d]) ∧ w = w') := fun w => by rw [← ha]; exact ptaf_any q0 q1 w
  have C6 : Hid (∀ w, Calls Tryd.prog 16 #[.int .i64 q0, .int .i64 q1] w fun e w' => e = .returned (.tuple #[.int .i64 c, .int .i64 d]) ∧ w = w') := fun w => by rw [← ha]; exact rptaf_any q0 q1 w
  have C7 : Hid (∀ w, Calls Tryd.prog 13 #[.int .i64 (n / 4 : Nat), .int .i64 (n % 4 : Nat)] w fun e w' => e = .returned (.tuple #[.int .u8 n, .int .i64 0]) ∧ w = w') := fun w => by rw [← ptJoin_back n hn]; exact ptjoin_any _ _ w
  clear hj ha hn
  generalize n / 4 = x at *
  generalize n % 4 = y at *
  have B0 : Hid (Below w.heap.size w ((w.alloc (.cells #[.int .i64 p0, .int .i64 p1] 22)).alloc (.cells #[.int .i64 q0, .int .i64 q1] 22))) := ((Below.refl _ _).alloc (Nat.le_refl _) _).alloc (by simp) _
  have HT : Hid (Pow ((w.alloc (.cells #[.int .i64 p0, .int .i64 p1] 22)).alloc (.cells #[.int .i64 q0, .int .i64 q1] 22))) := hT.below B0.out
  clear hT
  have r0 := cell_of_row _ _ 0 _ _ _ (heap_alloc2_old w (.cells #[.int .i64 p0, .int .i64 p1] 22) (.cells #[.int .i64 q0, .int .i64 q1] 22))
  have r1 := cell_of_row _ _ 1 _ _ _ (heap_alloc2_old w (.cells #[.int .i64 p0, .int .i64 p1] 22) (.cells #[.int .i64 q0, .int .i64 q1] 22))
  have s0 := cell_of_row _ _ 0 _ _ _ (heap_alloc2_new w (.cells #[.int .i64 p0, .int .i64 p1] 22) (.cells #[.int .i64 q0, .int .i64 q1] 22))
  have s1 := cell_of_row _ _ 1 _ _ _ (heap_alloc2_new w (.cells #[.int .i64 p0, .int .i64 p1] 22) (.cells #[.int .i64 q0, .int .i64 q1] 22))
  simp at r0 r1 s0 s1
  go_enter Tryd.func3, Tryd.ntmps3
  go_wp2_with fail
  refine (C1.out _).mono ?_
  rintro e w' ⟨rfl, rfl⟩
  go_wp2_with fail
  refine (C2.out _).mono ?_
  rintro e w' ⟨rfl, rfl⟩
  go_wp2_with fail
  refine (C3.out _).mono ?_
  rintro e w' ⟨rfl, rfl⟩
  go_wp2_with fail
  refine (C4.out _).mono ?_
  rintro e w' ⟨rfl, rfl⟩
  go_wp2_with fail
  refine (C5.out _).mono ?_
  rintro e w' ⟨rfl, rfl⟩
  go_wp2_with fail
  refine (C6.out _).mono ?_
  rintro e w' ⟨rfl, rfl⟩
  go_wp2_with fail
  refine (C7.out _).mono ?_
  rintro e w' ⟨rfl, rfl⟩
  go_wp2_with fail
  refine (live9 _ HT.out).mono ?_
  rintro e w1 ⟨rfl, hb⟩
  have B1 := Lib.hid (below_both B0.out hb)
  clear hb
  go_wp2_with fail
  go_ret
  exact ⟨by simp, B1.out⟩
end Go.Proofs.YtdeoeikpooonlaaDoor
