/-
  Opening an argument that is a number of 32 bits.
-/
import Derived.Test.YtdeoeikpooonlaaDoorLift
namespace Go.Proofs.YtdeoeikpooonlaaDoor
open Go.ChangeShapes Go.WideShapes Go.ChangeAt Go.RowKit
set_option linter.unusedVariables false
section
variable {H : Type} {enc : TypeId × Value → H} {P : Program} {W : World}
theorem wf_u32 {n : Int} (h : (Lit.int .u32 n).wf = true) : 0 ≤ n ∧ n ≤ 4294967295 := by
  simp [Lit.wf, IntKind.min, IntKind.max, IntKind.signed, IntKind.bits] at h; omega
theorem open_u32 {r : Reach} {b0 base : Nat} {spare : Nat → Bool} {held : Bool} {t : TypeId} {v : Value} {d : DataW H} {ps : List MemPlace} (ht : P.underlying t = some (.int .u32)) (hval : Value.okWide P W r b0 t v) (hd : DataW.Trod enc P W base spare held t v d ps) :
    ∃ n : Nat, v = .int .u32 n ∧ n ≤ 4294967295 := by
  obtain ⟨n, h1, _, _, h2⟩ := open_int ht hval hd
  have h3 := wf_u32 h2
  obtain ⟨m, rfl⟩ := Int.eq_ofNat_of_zero_le h3.1
  exact ⟨m, h1, by omega⟩
end
end Go.Proofs.YtdeoeikpooonlaaDoor
