/-
  The contract of colons' Sort.
-/
import Derived.Test.YtaicmadeobglfaaDoorCol7
import Derived.Laws.BitsAllLaws
namespace Go.Proofs.YtaicmadeobglfaaDoor
open Go.RowKit
set_option linter.unusedVariables false

def loop16 : List Nat := [0, 0, 0, 0, 0, 0, 0, 0, 0, 0, 0, 0, 0, 0, 0, 1]
/-- The sort of an address. -/
def csort (X : List Nat) : ByteArray :=
  if X = zero16 then ⟨#[110, 111, 110, 101]⟩
  else if X = loop16 then ⟨#[108, 111, 111, 112]⟩
  else if X.take 12 = mp then ⟨#[102, 111, 117, 114]⟩
  else if X.getD 0 0 = 255 then ⟨#[103, 114, 111, 117, 112]⟩
  else if X.getD 0 0 = 254 ∧ 128 ≤ X.getD 1 0 ∧ X.getD 1 0 < 192 then ⟨#[108, 105, 110, 107]⟩
  else if X.getD 0 0 = 252 ∨ X.getD 0 0 = 253 then ⟨#[112, 114, 105, 118, 97, 116, 101]⟩
  else ⟨#[104, 111, 115, 116]⟩
theorem link_bits : ∀ y, y < 256 → ((y &&& 192 = 128) ↔ (128 ≤ y ∧ y < 192)) := by decide +kernel
theorem priv_bits : ∀ x, x < 256 → ((x &&& 254 = 252) ↔ (x = 252 ∨ x = 253)) := by decide +kernel
theorem same_lit16 (X M : List Nat) (hX : X.length = 16) (hM : M.length = 16) (b : Bool) (hb : b = decide (X = M)) (w : World) : (Op.equalIn 10000 22 (.agg (bcells X).toArray) (.agg (bcells M).toArray)).run Tryd.prog w = .ok b w := by
  rw [hb]
  exact same_nat Tryd.underlying22 X M hX hM w

end Go.Proofs.YtaicmadeobglfaaDoor
