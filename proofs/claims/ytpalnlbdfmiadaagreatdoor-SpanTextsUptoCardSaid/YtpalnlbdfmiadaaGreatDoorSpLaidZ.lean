/-
  What the rows of this seat list: a world in which all the listed tables lie, and what the list and the world's shape give ('Tabs').
-/
import Derived.Test.YtpalnlbdfmiadaaGreatDoorCards
import Derived.Test.YtpalnlbdfmiadaaGreatDoorTie
import Derived.Test.YtpalnlbdfmiadaaGreatDoorSpCut
import Derived.WalkKit
import Derived.ProofKit
import Derived.OpenShut
import Derived.LaidSub
import Derived.Deep.DeepHandedRow
import Derived.Lib.LaidTab
import Derived.Lib.TrailingZeros
import Derived.Shelf.Vars
namespace Go.Proofs.YtpalnlbdfmiadaaGreatDoor
open Go.ChangeShapes Go.WideShapes Go.ChangeAt Go.RowKit
set_option linter.unusedVariables false

/-- The list that every row of the seat bears. -/
def lst : List (String × DataW Unit) := Rows.spanTextsRow.laid
theorem pow_type : (Tryz.prog.globals[(3 : Nat)]?).map (·.type) = some 121 := by kernel_rfl
theorem pow_cells : Tryz.prog.cellsOf 121 = 20 := by kernel_rfl
theorem u64_cells : Tryz.prog.cellsOf 34 = 1 := by kernel_rfl
theorem lst_pow : lst.filter (fun x => x.1 == "internal/strconv.uint64pow10") = [("internal/strconv.uint64pow10", Lib.tabData .u64 Lib.pow10Tab)] := by kernel_rfl
theorem pow_of_laid {W : World} (h : laidMetH Tryz.prog lst W) : Pow W := by
  have h1 := laidMetH.filter (fun x => x.1 == "internal/strconv.uint64pow10") h
  rw [lst_pow] at h1
  exact Lib.tabIs_of_head (rest := []) pow_global pow_type Tryz.underlying121 Tryz.underlying34 u64_cells pow_cells h1

/-- A variable's cells are laid anew. -/
def layAt (h : Array Obj) (g : Nat) (cs : Array Value) : Array Obj := h.modify g fun
  | .cells _ t frozen => .cells cs t frozen
  | o => o
def u8s (zs : List Nat) : Array Value := (zs.map fun z : Nat => Value.int .u8 (z : Int)).toArray
/-- Where the two errors' texts lie. -/
noncomputable def low : Nat := (World.holding Tryz.prog default ⟨#[], #[], []⟩).heap.size
abbrev textRange : ByteArray := { data := #[118, 97, 108, 117, 101, 32, 111, 117, 116, 32, 111, 102, 32, 114, 97, 110, 103, 101] }
abbrev textSyntax : ByteArray := { data := #[105, 110, 118, 97, 108, 105, 100, 32, 115, 121, 110, 116, 97, 120] }
noncomputable def tables (h : Array Obj) : Array Obj :=
  let h1 := layAt h 3 (Lib.pow10Tab.map fun z : Int => Value.int .u64 z).toArray
  let h2 := layAt h1 4 (u8s Lib.deBruijn32tab)
  let h3 := layAt h2 5 (u8s Lib.deBruijn64tab)
  let h3 := layAt h3 2 #[.iface 132 (.pointer (some ⟨low, 0, none⟩))]
  let h3 := layAt h3 1 #[.iface 132 (.pointer (some ⟨low + 1, 0, none⟩))]
  h3
/-- A world for the witness: the settled one, each listed table as its initialiser lays it. -/
noncomputable def laidWorld (os : Os) : World :=
  let w0 := World.holding Tryz.prog os ⟨#[.cells #[.string textRange] 134, .cells #[.string textSyntax] 134], #[], []⟩
  { w0 with heap := tables w0.heap }
set_option maxRecDepth 100000 in
theorem laid_met (os : Os) (args : Array Value) : laidMet Tryz.prog lst ((laidWorld os).forCall (fun _ _ => 0) ⟨#[], args, []⟩).memory :=
  laidMet_of_run' 8 (by kernel_rfl) (by kernel_rfl)
theorem own : ownKnob Tryz.prog.godebug = none := by kernel_rfl
theorem laidOut : laidOutB Tryz.prog = true := by kernel_rfl
theorem maxl_of_shaped {W : World} (h : W.ShapedOpen Tryz.prog) : MaxL W :=
  cell_of_shapedOpen_int (g := 0) (t := 3) (zero := #[.int .i64 0]) (k := .i64) h (of_decide_eq_true (by kernel_rfl)) (by kernel_rfl) rfl (by kernel_rfl) (by kernel_rfl) Tryz.underlying3
theorem tabs_of {W : World} (h : laidMetH Tryz.prog lst W) (hs : W.ShapedOpen Tryz.prog) : Tabs W := ⟨pow_of_laid h, maxl_of_shaped hs⟩
end Go.Proofs.YtpalnlbdfmiadaaGreatDoor
