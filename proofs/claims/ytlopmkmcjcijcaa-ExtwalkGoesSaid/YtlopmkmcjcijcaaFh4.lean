/-
  The contract of fourhead's Seal at a header that Read tells.
-/
import Derived.Test.YtlopmkmcjcijcaaFh3
import Derived.Test.YtlopmkmcjcijcaaOne4
import Derived.Test.YtlopmkmcjcijcaaApp
namespace Go.Proofs.Ytlopmkmcjcijcaa
open Go.RowKit
set_option linter.unusedVariables false

/-- Bytes with their header's checksum in them. -/
def fhseal (bs : List Nat) (m : Nat) : List Nat := filled (bs.take m) 10 ++ bs.drop m
theorem own_out {B : Nat} {w : World} {g : Nat} {l : List Nat} (h : Own w g l) (hB : B ≤ g) (hl : l.length ≤ maxLen) : OutIs B w (.slice (some ⟨g, 0, none⟩) l.length l.length) l := by
  refine ⟨by simp [bcells_length], .inr ⟨g, l.length, (bcells l).toArray, rfl, hB, h, Nat.le_refl _, hl, by simp [bcells_length], ?_⟩⟩
  simp [List.take_of_length_le, bcells_length]
def SealIs (w : World) (l : List Nat) (e : Ending) (w' : World) : Prop := ∃ v, e = .returned (.tuple #[v, .int .i64 0]) ∧ OutIs w.heap.size w' v l ∧ Below w.heap.size w w'
end Go.Proofs.Ytlopmkmcjcijcaa
