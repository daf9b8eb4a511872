/-
  The contract of fourhead's Read.
-/
import Derived.Test.YtlopmkmcjcijcaaFh1
namespace Go.Proofs.Ytlopmkmcjcijcaa
open Go.RowKit
set_option linter.unusedVariables false

/-- What Read tells: the fields, and what is wrong. -/
def fhdef (n : Nat) (bs : List Nat) : Nat :=
  if n = 0 then 1 else if bs.getD 0 0 / 16 ≠ 4 then 2 else if n < 20 then 3 else if bs.getD 0 0 % 16 < 5 then 4 else if n < 4 * (bs.getD 0 0 % 16) then 5 else 0
def fhval (n : Nat) (bs : List Nat) : List Value := if fhdef n bs = 0 then fhf bs else fhz
theorem fhz_one : ∀ v ∈ fhz, v.oneCell' = true := by
  intro v hv
  simp [fhz] at hv
  rcases hv with rfl | rfl <;> rfl
theorem fhf_len (bs : List Nat) : (fhf bs).length = 17 := rfl
theorem fhf_one (bs : List Nat) : ∀ v ∈ fhf bs, v.oneCell' = true := by
  unfold fhf
  simp [Value.oneCell']
def ReadIs (n : Nat) (bs : List Nat) (w : World) (e : Ending) (w' : World) : Prop := e = .returned (.tuple #[.agg (fhval n bs).toArray, .int .i64 (fhdef n bs : Nat)]) ∧ Below w.heap.size w w'
end Go.Proofs.Ytlopmkmcjcijcaa
