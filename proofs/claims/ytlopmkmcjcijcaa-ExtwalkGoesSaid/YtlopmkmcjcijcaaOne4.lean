/-
  Fill answers new memory that the caller holds.
-/
import Derived.Test.YtlopmkmcjcijcaaOne3
namespace Go.Proofs.Ytlopmkmcjcijcaa
open Go.RowKit
set_option linter.unusedVariables false

/-- It answers a new block that is these bytes, whole. -/
def OwnTo (w : World) (l : List Nat) (e : Ending) (w' : World) : Prop := ∃ g, w.heap.size ≤ g ∧ e = .returned (.tuple #[.slice (some ⟨g, 0, none⟩) l.length l.length, .int .i64 0]) ∧ Own w' g l ∧ Below w.heap.size w w'
theorem own_put {w : World} {l : List Nat} : ∀ e w', PutTo w l e w' → OwnTo w l e w' := fun e w' ⟨h1, h2, h3⟩ => ⟨w.heap.size, Nat.le_refl _, h1, h2, h3⟩
theorem Own.val {w : World} {g : Nat} {l : List Nat} (h : Own w g l) (hb : ∀ x ∈ l, x < 256) : ByteVal w (.slice (some ⟨g, 0, none⟩) l.length l.length) l := ⟨_, _, rfl, Nat.le_refl _, h.row hb⟩
end Go.Proofs.Ytlopmkmcjcijcaa
