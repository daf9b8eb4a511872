/-
  The library's Itoa as span uses it; the table that it reads.
-/
import Derived.Test.YtpalnlbdfmiadaaGreatDoorSpDec
import Derived.Shelf.Strconv.Itoa3
import Derived.Lib.AppendIntMem
namespace Go.Proofs.YtpalnlbdfmiadaaGreatDoor
open Go.RowKit Go.Shelf
set_option linter.unusedVariables false
shelf_lay LaysM.n171 Nm 171 at Tryz as lays171
/-- The library's table of powers of ten lies in the world. -/
def Pow (w : World) : Prop := Lib.TabIs Tryz.prog w "internal/strconv.uint64pow10" .u64 Lib.pow10Tab
theorem pow_global : Tryz.prog.globalNamed "internal/strconv.uint64pow10" = some 3 := by kernel_rfl
theorem Pow.below {w w' : World} (h : Pow w) (hb : Below w.heap.size w w') : Pow w' := Go.Joins.tab_stays pow_global h hb (Nat.le_refl _)
theorem itoa_port (n : Int) (w : World) (h0 : 0 ≤ n) (hn : n ≤ 65535) (hT : Pow w) :
    Calls Tryz.prog 16 #[.int .i64 n] w fun e w' => e = .returned (.string ⟨(Lib.decDigits n.toNat).toArray⟩) ∧ Below w.heap.size w w' := by
  have h := Any.strconv_Itoa lays171 n (by omega) (by omega) w hT
  refine (show Calls Tryz.prog 16 #[.int .i64 n] w _ from h).mono ?_
  rintro e w' ⟨rfl, k, os, rfl⟩
  refine ⟨?_, Lib.below_grow _ _ (Nat.le_refl _) k os⟩
  have e : Lib.itoa n = Lib.decDigits n.toNat := by
    unfold Lib.itoa
    rw [if_neg (by omega)]
  rw [e]
end Go.Proofs.YtpalnlbdfmiadaaGreatDoor
