/-
  What the rows' list and the world's shape give of the library's variables that layer 6 reads ('Six').
-/
import Derived.Test.YtaicmadeobglfaaDoorDLaid
import Derived.Test.YtaicmadeobglfaaDoorCol12
namespace Go.Proofs.YtaicmadeobglfaaDoor
open Go.ChangeShapes Go.WideShapes Go.ChangeAt Go.RowKit
set_option linter.unusedVariables false

def bruTab : List Int := Lib.deBruijn64tab.map fun (n : Nat) => (n : Int)
theorem bru_global : Tryd.prog.globalNamed "math/bits.deBruijn64tab" = some 5 := by kernel_rfl
theorem bru_type : (Tryd.prog.globals[(5 : Nat)]?).map (·.type) = some 129 := by kernel_rfl
theorem bru_cells : Tryd.prog.cellsOf 129 = 64 := by kernel_rfl
theorem lst_bru : lst.filter (fun x => x.1 == "math/bits.deBruijn64tab") = [("math/bits.deBruijn64tab", Lib.tabData .u8 bruTab)] := by kernel_rfl
theorem bru_of_laid {W : World} (h : laidMetH Tryd.prog lst W) : Bru W := by
  have h1 := laidMetH.filter (fun x => x.1 == "math/bits.deBruijn64tab") h
  rw [lst_bru] at h1
  have h2 := Lib.tabIs_of_head (rest := []) bru_global bru_type Tryd.underlying129 Tryd.underlying5 u8_cells bru_cells h1
  exact h2.cell bru_global 15 (by decide)
theorem maxl_of_shaped {W : World} (h : W.ShapedOpen Tryd.prog) : MaxL W :=
  cell_of_shapedOpen_int (g := 0) (t := 3) (zero := #[.int .i64 0]) (k := .i64) h (of_decide_eq_true (by kernel_rfl)) (by kernel_rfl) rfl (by kernel_rfl) (by kernel_rfl) Tryd.underlying3
theorem six_of {W : World} (h : laidMetH Tryd.prog lst W) (hs : W.ShapedOpen Tryd.prog) : Six W := ⟨pow_of_laid h, bru_of_laid h, maxl_of_shaped hs⟩
end Go.Proofs.YtaicmadeobglfaaDoor
