/-
  The range of the first number of a header's fields that came in. Nothing is claimed of the program here.
-/
import Derived.Test.YteldjcdoohafcaaFLift
namespace Go.Proofs.Yteldjcdoohafcaa
open Go.ChangeShapes Go.WideShapes Go.ChangeAt Go.RowKit Go.Joins Go.Deep
set_option linter.unusedVariables false
section
variable {H : Type} {enc : TypeId × Value → H} {W : World}
set_option maxRecDepth 10000 in
theorem four_lo {base : Nat} {spare : Nat → Bool} {held : Bool} {f : FourV} {d : DataW H} {p : List MemPlace}
    (h : DataW.Trod enc Try.prog W base spare held 25 (.agg f.cells.toArray) d p) : -9223372036854775808 ≤ f.k0 ∧ f.k0 ≤ 9223372036854775807 := by
  obtain ⟨fuel, hf⟩ := h
  obtain ⟨xs, n, _, _, _, hlen, hel⟩ := DataW.trod_struct Try.underlying25 hf
  have hx11 : xs.length = 11 := hlen
  have h0 := hel 0 _ rfl
  rw [List.getElem?_eq_getElem (by omega)] at h0
  obtain ⟨a, e, _, wa⟩ := DataW.trod_int Try.underlying3 h0
  have e2 : f.k0 = a := by
    have : [Value.int .i64 f.k0] = [Value.int .i64 a] := e
    simpa using this
  rw [e2]
  exact wf_i64 wa
end
end Go.Proofs.Yteldjcdoohafcaa
