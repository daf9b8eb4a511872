/-
  The contract of fourhead's numbers.
-/
import Derived.Test.YtlopmkmcjcijcaaFh3
import Derived.IntWalk
namespace Go.Proofs.Ytlopmkmcjcijcaa
open Go.RowKit
set_option linter.unusedVariables false

/-- A header's fields as a value: nine numbers and eight bytes. -/
structure FourV where
  k0 : Int
  k1 : Int
  k2 : Int
  k3 : Int
  k4 : Int
  k5 : Int
  k6 : Int
  k7 : Int
  k8 : Int
  src : List Nat
  dst : List Nat
def FourV.ks (f : FourV) : List Int := [f.k0, f.k1, f.k2, f.k3, f.k4, f.k5, f.k6, f.k7, f.k8]
def fourLo : List Int := [5, 0, 0, 0, 0, 0, 0, 0, 0]
def fourHi : List Int := [15, 255, 65535, 65535, 7, 8191, 255, 255, 65535]
def FourV.nums (f : FourV) : List Value :=
  [.int .i64 f.k0, .int .i64 5, .int .i64 15, .int .i64 f.k1, .int .i64 0, .int .i64 255, .int .i64 f.k2, .int .i64 0, .int .i64 65535, .int .i64 f.k3, .int .i64 0, .int .i64 65535, .int .i64 f.k4, .int .i64 0, .int .i64 7, .int .i64 f.k5, .int .i64 0, .int .i64 8191,
    .int .i64 f.k6, .int .i64 0, .int .i64 255, .int .i64 f.k7, .int .i64 0, .int .i64 255, .int .i64 f.k8, .int .i64 0, .int .i64 65535]
theorem nums_zero (t : TypeId) : (List.replicate 27 (Value.int .i64 0)).length = 27 := rfl
theorem FourV.nums_one (f : FourV) : ∀ v ∈ f.nums, v.oneCell' = true := by
  intro v hv
  unfold FourV.nums at hv
  simp only [List.mem_cons, List.not_mem_nil, or_false] at hv
  rcases hv with h | h | h | h | h | h | h | h | h | h | h | h | h | h | h | h | h | h | h | h | h | h | h | h | h | h | h <;> rw [h] <;> rfl
def FourV.cells (f : FourV) : List Value := [.int .i64 f.k0, .int .i64 f.k1, .int .i64 f.k2, .int .i64 f.k3, .int .i64 f.k4, .int .i64 f.k5, .int .i64 f.k6, .int .i64 f.k7, .int .i64 f.k8] ++ bcells f.src ++ bcells f.dst
end Go.Proofs.Ytlopmkmcjcijcaa
