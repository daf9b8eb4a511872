/-
  What the rows of this seat list: a world in which the table of de Bruijn lies, and what the list gives of it ('Bru').
-/
import Derived.Test.YtdpncnplbkmgoaaDoorCards
import Derived.Test.YtdpncnplbkmgoaaDoorTie
import Derived.Test.YtdpncnplbkmgoaaDoorBr1
import Derived.WalkKit
import Derived.ProofKit
import Derived.OpenShut
import Derived.LaidSub
import Derived.Deep.DeepHandedRow
import Derived.Lib.LaidTab
import Derived.Lib.TrailingZeros
namespace Go.Proofs.YtdpncnplbkmgoaaDoor
open Go.ChangeShapes Go.WideShapes Go.ChangeAt Go.RowKit
set_option linter.unusedVariables false

/-- The list that every row of the seat bears. -/
def lst : List (String × DataW Unit) := Rows.bitrowSetsRow.laid
def bruTab : List Int := Lib.deBruijn64tab.map fun (n : Nat) => (n : Int)
theorem bru_global : Tryd.prog.globalNamed "math/bits.deBruijn64tab" = some 0 := by kernel_rfl
theorem bru_type : (Tryd.prog.globals[(0 : Nat)]?).map (·.type) = some 63 := by kernel_rfl
theorem bru_cells : Tryd.prog.cellsOf 63 = 64 := by kernel_rfl
theorem u8_cells : Tryd.prog.cellsOf 5 = 1 := by kernel_rfl
theorem lst_bru : lst = [("math/bits.deBruijn64tab", Lib.tabData .u8 bruTab)] := by kernel_rfl
theorem bru_of_laid {W : World} (h : laidMetH Tryd.prog lst W) : Bru W := by
  have h1 := h
  rw [lst_bru] at h1
  have h2 := Lib.tabIs_of_head (rest := []) bru_global bru_type Tryd.underlying63 Tryd.underlying5 u8_cells bru_cells h1
  intro j hj
  have h3 := h2.cell bru_global j (by decide +revert)
  rw [h3]
  congr 2
  unfold bruTab
  rw [List.getD_eq_getElem?_getD, List.getD_eq_getElem?_getD, List.getElem?_map]
  cases hq : Lib.deBruijn64tab[j]? with
  | none => rfl
  | some q => rfl

/-- A variable's cells are laid anew. -/
def layAt (h : Array Obj) (g : Nat) (cs : Array Value) : Array Obj := h.modify g fun
  | .cells _ t frozen => .cells cs t frozen
  | o => o
def u8s (zs : List Nat) : Array Value := (zs.map fun z : Nat => Value.int .u8 (z : Int)).toArray
/-- A world for the witness: the settled one, the listed table as its initialiser lays it. -/
noncomputable def laidWorld (os : Os) : World :=
  let w0 := World.holding Tryd.prog os ⟨#[], #[], []⟩
  { w0 with heap := layAt w0.heap 0 (u8s Lib.deBruijn64tab) }
set_option maxRecDepth 100000 in
theorem laid_met (os : Os) (args : Array Value) : laidMet Tryd.prog lst ((laidWorld os).forCall (fun _ _ => 0) ⟨#[], args, []⟩).memory :=
  laidMet_of_run' 8 (by kernel_rfl) (by kernel_rfl)
theorem own : ownKnob Tryd.prog.godebug = none := by kernel_rfl
theorem laidOut : laidOutB Tryd.prog = true := by kernel_rfl
end Go.Proofs.YtdpncnplbkmgoaaDoor
