/-
  Seal where Read refuses; the examples of layer 10 come out as they must: the contract of weighbridgelaw10.live.
-/
import Derived.Test.YtlopmkmcjcijcaaFh11
import Derived.Test.YtlopmkmcjcijcaaFh7
import Derived.Test.YtlopmkmcjcijcaaSames
import Derived.Test.YtlopmkmcjcijcaaFh4
namespace Go.Proofs.Ytlopmkmcjcijcaa
open Go.RowKit
set_option linter.unusedVariables false

def H20 : List Nat := [69, 184, 0, 20, 0, 7, 32, 0, 64, 17, 0, 0, 10, 0, 0, 1, 10, 0, 0, 2]
def S20 : List Nat := [69, 184, 0, 20, 0, 7, 32, 0, 64, 17, 70, 24, 10, 0, 0, 1, 10, 0, 0, 2]
theorem seal_H20 : fhseal H20 20 = S20 := by decide
theorem def_H20 : fhdef 20 H20 = 0 := by decide
theorem def_S20 : fhdef 20 S20 = 0 := by decide
def F20 : FourV := ⟨5, 184, 20, 7, 1, 0, 64, 17, 17944, [10, 0, 0, 1], [10, 0, 0, 2]⟩
theorem cells_F20 : fhf S20 = F20.cells := by rfl
theorem bytes_F20 : F20.bytes [] = S20 := by decide
theorem all_H20 : fhall 20 H20 = [9] := by decide
theorem all_S20 : fhall 20 S20 = [] := by decide
def Y24 : List Nat := 70 :: S20.drop 1 ++ [1, 7, 2, 0]
theorem opts_Y24 : fhopts 24 Y24 = some [(1, []), (7, [])] := by decide
theorem fits_F20 : F20.fits := fun k hk => by
  unfold FourV.okAt
  match k, hk with
  | 0, _ => decide
  | 1, _ => decide
  | 2, _ => decide
  | 3, _ => decide
  | 4, _ => decide
  | 5, _ => decide
  | 6, _ => decide
  | 7, _ => decide
  | 8, _ => decide
theorem cell_keep {w w' : World} {b o : Nat} {v : Value} (h : b < w.heap.size ∧ w.cell? ⟨b, o, none⟩ = some v) (hb : Below w.heap.size w w') : b < w'.heap.size ∧ w'.cell? ⟨b, o, none⟩ = some v :=
  ⟨Nat.lt_of_lt_of_le h.1 hb.size, (hb.cell (p := ⟨b, o, none⟩) h.1).trans h.2⟩
theorem len_Y24 : Y24.length = 24 := rfl
end Go.Proofs.Ytlopmkmcjcijcaa
