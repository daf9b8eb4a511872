/-
  The walk of the statement DottedParses, for texts of at most 2^40 bytes.
-/
import Derived.Test.YtdeecobpglfgaaaDoorRParse
import Derived.Test.YtdeecobpglfgaaaDoorWDBack
namespace Go.Proofs.YtdeecobpglfgaaaDoor
open Go.RowKit
set_option linter.unusedVariables false
attribute [local go_sem] eq4_run

set_option maxRecDepth 10000 in
set_option maxHeartbeats 1600000 in
theorem walk_DottedParses (s0 : ByteArray) (w : World) (hT : Pow w) (hs0 : s0.size ≤ 1048576) :
    Calls Tryd.prog 4 #[.string s0] w fun e w' => e = .returned (.bool true) ∧ Below w.heap.size w w' := by
  have HT := Lib.hid hT
  clear hT
  obtain ⟨⟨⟨x, y, z, u⟩, E⟩, hp⟩ : ∃ p, dparse s0.data.toList = p := ⟨_, rfl⟩
  have CS : Hid (∀ w, Calls Tryd.prog 24 #[.string s0] w fun e w' => e = .returned (.tuple #[.agg #[.int .u8 x, .int .u8 y, .int .u8 z, .int .u8 u], .int .i64 E]) ∧ Below w.heap.size w w') := fun w => by
    have h := parse_any s0 w (by omega)
    unfold ParseIs dval at h
    rw [hp] at h
    exact h
  have CR : Hid (∀ w, Calls Tryd.prog 25 #[.string s0] w fun e w' => e = .returned (.tuple #[.agg #[.int .u8 x, .int .u8 y, .int .u8 z, .int .u8 u], .int .i64 E]) ∧ Below w.heap.size w w') := fun w => by
    have h := rparse_any s0 w (by omega)
    unfold ParseIs dval at h
    rw [hp] at h
    exact h
  have Q := same_self x y z u
  clear hp hs0
  go_enter Tryd.func4, Tryd.ntmps4
  go_wp2_with fail
  refine (CS.out _).mono ?_
  rintro e w1 ⟨rfl, b1⟩
  have A1 : Hid (ArrAt (w1.alloc (.cells #[.int .u8 x, .int .u8 y, .int .u8 z, .int .u8 u] 22)) w1.heap.size [x, y, z, u]) := heap_alloc_new w1 _
  have BB := Lib.hid (b1.alloc b1.size (.cells #[.int .u8 x, .int .u8 y, .int .u8 z, .int .u8 u] 22))
  clear b1
  go_wp2_with fail
  refine (CR.out _).mono ?_
  rintro e w2 ⟨rfl, b2⟩
  have A1 := Lib.hid ((A1.out.below b2).alloc (.cells #[.int .u8 x, .int .u8 y, .int .u8 z, .int .u8 u] 22))
  have A2 : Hid (ArrAt (w2.alloc (.cells #[.int .u8 x, .int .u8 y, .int .u8 z, .int .u8 u] 22)) w2.heap.size [x, y, z, u]) := heap_alloc_new w2 _
  have BB := Lib.hid ((below_both BB.out b2).alloc (below_both BB.out b2).size (.cells #[.int .u8 x, .int .u8 y, .int .u8 z, .int .u8 u] 22))
  clear b2
  go_wp2_with fail
  refine (live5 _ (HT.out.below BB.out)).mono ?_
  rintro e w3 ⟨rfl, b3⟩
  have A1 := A1.out.below b3
  have A2 := A2.out.below b3
  have BB := Lib.hid (below_both BB.out b3)
  have c0 := A1.cell 0 (by simp)
  have c1 := A1.cell 1 (by simp)
  have c2 := A1.cell 2 (by simp)
  have c3 := A1.cell 3 (by simp)
  have d0 := A2.cell 0 (by simp)
  have d1 := A2.cell 1 (by simp)
  have d2 := A2.cell 2 (by simp)
  have d3 := A2.cell 3 (by simp)
  simp at c0 c1 c2 c3 d0 d1 d2 d3
  clear b3 A1 A2
  go_wp2_with fail
  go_ret
  exact ⟨by simp, BB.out⟩
end Go.Proofs.YtdeecobpglfgaaaDoor
