/-
  The contracts of prefix's Make and All.
-/
import Derived.Test.YtaicmadeobglfaaDoorPre4
namespace Go.Proofs.YtaicmadeobglfaaDoor
open Go.RowKit
set_option linter.unusedVariables false

theorem zero18_len : (pcells 0 zero16 0).length = 18 := rfl
theorem zero18_one : ∀ v ∈ pcells 0 zero16 0, v.oneCell' = true := (pc_parts 0 0 rfl).one
/-- The prefix of so many bits that an address has; the zero prefix where there is none. -/
def pmake (v : Int) (X : List Nat) (n : Int) : List Value := if pfits v n = 0 then pcells v (keepB X n.toNat) n else pcells 0 zero16 0
set_option maxRecDepth 10000 in
theorem pall_any (v : Int) (w : World) : Calls Tryd.prog 4 #[.int .i64 v] w fun e w' => e = .returned (.agg (pcells v zero16 0).toArray) ∧ Below w.heap.size w w' := by
  have K0 : Hid (KV w [(24, w.heap.size, pcells 0 zero16 0)] (w.alloc (.cells (pcells 0 zero16 0).toArray 24))) := KV.one w _ _
  have HR := Lib.hid (pc_parts v 0 (X := zero16) rfl)
  go_enter Tryd.func4, Tryd.ntmps4
  go_wp2_with (first | refine wpList_store_v rfl 24 (.tmp 2) (.tmp 4) rfl _ rfl typfx (K0.out.at 0 rfl) zero18_len (pcells v zero16 0) HR.out.len HR.out.one rfl ?_ | fail)
  have hw3 := K0.out.store 0 rfl (pcells v zero16 0) rfl
  exact bodyPost_ret (v := .agg (pcells v zero16 0).toArray) (res_cell Tryd.results4 rfl ((hw3.at 0 rfl).loadVar typfx HR.out.len)) rfl ⟨rfl, hw3.bel⟩
end Go.Proofs.YtaicmadeobglfaaDoor
