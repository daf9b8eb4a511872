/-
  The walk of the statement PointNames.
-/
import Derived.Test.YtdeoeikpooonlaaDoorPt3
import Derived.Test.YtdeoeikpooonlaaDoorPt4
namespace Go.Proofs.YtdeoeikpooonlaaDoor
open Go.RowKit
set_option linter.unusedVariables false

set_option maxRecDepth 10000 in
set_option maxHeartbeats 3200000 in
theorem walk_PointNames (d : Int) (s : ByteArray) (w : World) (hT : Pow w) (h1 : -9223372036854775808 ≤ d) (h2 : d ≤ 9223372036854775807) (hs : s.size ≤ 140737488351232) :
    Calls Tryd.prog 4 #[.int .i64 d, .string s] w fun e w' => e = .returned (.bool true) ∧ Below w.heap.size w w' := by
  have HT := Lib.hid hT
  have C1 : Hid (∀ w, Pow w → Calls Tryd.prog 18 #[.string s] w fun e w' => e = .returned (.tuple #[.int .i64 ((ptParse s.data.toList).1 : Nat), .int .i64 ((ptParse s.data.toList).2 : Nat)]) ∧ Below w.heap.size w w') := fun w h => ptparse_any s w h
  have C2 : Hid (∀ w, Calls Tryd.prog 19 #[.string s] w fun e w' => e = .returned (.tuple #[.int .i64 ((ptParse s.data.toList).1 : Nat), .int .i64 ((ptParse s.data.toList).2 : Nat)]) ∧ Below w.heap.size w w') := fun w => rptparse_any s w
  have C3 := Lib.hid (fun w => ptsort_any d w h1 h2)
  have C4 := Lib.hid (fun w => rptsort_any d w h1 h2)
  have C5 := Lib.hid (fun w => ptprec_any d w h1 h2)
  have C6 := Lib.hid (fun w => rptprec_any d w)
  have C7 := Lib.hid (fun w h => ptname_any d w h1 h2 h)
  have C8 := Lib.hid (fun w => rptname_any d w h1 h2)
  clear hT h1 h2 hs
  generalize (ptParse s.data.toList).1 = a at *
  generalize (ptParse s.data.toList).2 = b at *
  generalize ptSort d = x at *
  generalize ptPrec d = y at *
  generalize ptName d = z at *
  go_enter Tryd.func4, Tryd.ntmps4
  go_wp2_with fail
  refine (C1.out _ HT.out).mono ?_
  rintro e w1 ⟨rfl, hb⟩
  have B1 := Lib.hid hb
  clear hb
  go_wp2_with fail
  refine (C2.out _).mono ?_
  rintro e w2 ⟨rfl, hb⟩
  have B2 := Lib.hid (below_both B1.out hb)
  clear hb
  go_wp2_with fail
  refine (live9 _ (HT.out.below B2.out)).mono ?_
  rintro e w3 ⟨rfl, hb⟩
  have B3 := Lib.hid (below_both B2.out hb)
  clear hb
  go_wp2_with fail
  refine (C3.out _).mono ?_
  rintro e w' ⟨rfl, rfl⟩
  go_wp2_with fail
  refine (C4.out _).mono ?_
  rintro e w' ⟨rfl, rfl⟩
  go_wp2_with fail
  refine (C5.out _).mono ?_
  rintro e w' ⟨rfl, rfl⟩
  go_wp2_with fail
  refine (C6.out _).mono ?_
  rintro e w' ⟨rfl, rfl⟩
  go_wp2_with fail
  refine (C7.out _ (HT.out.below B3.out)).mono ?_
  rintro e w4 ⟨rfl, hb⟩
  have B4 := Lib.hid (below_both B3.out hb)
  clear hb
  go_wp2_with fail
  refine (C8.out _).mono ?_
  rintro e w5 ⟨rfl, hb⟩
  have B5 := Lib.hid (below_both B4.out hb)
  clear hb
  go_wp2_with fail
  go_ret
  exact ⟨by simp, B5.out⟩
end Go.Proofs.YtdeoeikpooonlaaDoor
