/-
  Small facts for the walk of PrefixBack.
-/
import Derived.Test.YtaicmadeobglfaaDoorPfBack
import Derived.Test.YtaicmadeobglfaaDoorPfLift
namespace Go.Proofs.YtaicmadeobglfaaDoor
open Go.RowKit
set_option linter.unusedVariables false

theorem allocpfx : ∀ W, (Instr.alloc 24 true (.tuple #[])).run Tryd.prog W = .ok (.pointer (some ⟨W.heap.size, 0, none⟩)) (W.alloc (.cells (pcells 0 zero16 0).toArray 24)) := fun W => by
  simp [go_sem]
  rfl
theorem mod_facts {n M m : Nat} (h : m = n % (M + 1)) (hn : n < 256) (hM : M ≤ 128) : wrap64 (n : Int) = (n : Int) ∧ (n : Int).tmod ((M + 1 : Nat) : Int) = (m : Int) ∧ m ≤ M := by
  refine ⟨by unfold wrap64; omega, ?_, ?_⟩
  · rw [Int.tmod_eq_emod_of_nonneg (by omega), h]; omega
  · have := Nat.mod_lt n (show 0 < M + 1 by omega); omega
theorem i64_mod {m M : Nat} (h : m ≤ M) (hM : M ≤ 128) : IntKind.i64.wrap (m : Int) = (m : Int) := i64_small (by omega)
end Go.Proofs.YtaicmadeobglfaaDoor
