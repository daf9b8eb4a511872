/-
  octet.Get and octet.Cut answer as the document's answer does, whatever the bytes, place and width.
-/
import Derived.Test.YtnofalgcpgheoaaDoorOct7
namespace Go.Proofs.YtnofalgcpgheoaaDoor
open Go.RowKit
set_option linter.unusedVariables false

/-- A value that is a byte slice and reads as these bytes. -/
def ByteVal (w : World) (v : Value) (l : List Nat) : Prop := ∃ A c, v = .slice A l.length c ∧ l.length ≤ c ∧ Row w A l.length l
theorem ByteVal.below {w w' : World} {v : Value} {l : List Nat} (h : ByteVal w v l) (hb : Below w.heap.size w w') : ByteVal w' v l := by
  obtain ⟨A, c, h1, h2, h3⟩ := h
  exact ⟨A, c, h1, h2, h3.below hb⟩
theorem ByteVal.nil (w : World) : ByteVal w (.slice none 0 0) [] := ⟨none, 0, rfl, Nat.le_refl _, Row.nil w none⟩
/-- It answers a byte slice and an error. -/
def TwoTo (w : World) (l : List Nat) (y : Int) (e : Ending) (w' : World) : Prop := ∃ v, e = .returned (.tuple #[v, .int .i64 y]) ∧ ByteVal w' v l ∧ Below w.heap.size w w'
theorem two_nil {w : World} {y : Int} : ∀ e w', (e = .returned (.tuple #[.slice none 0 0, .int .i64 y]) ∧ w = w') → TwoTo w [] y e w' := by
  rintro e w' ⟨rfl, rfl⟩
  exact ⟨_, rfl, ByteVal.nil w, Below.refl _ _⟩
theorem two_own {w : World} {l : List Nat} (hl : ∀ x ∈ l, x < 256) : ∀ e w', (e = .returned (.tuple #[.slice (some ⟨w.heap.size, 0, none⟩) l.length l.length, .int .i64 0]) ∧ Own w' w.heap.size l ∧ Below w.heap.size w w') → TwoTo w l 0 e w' := by
  rintro e w' ⟨rfl, ho, hb⟩
  exact ⟨_, rfl, ⟨_, _, rfl, Nat.le_refl _, ho.row hl⟩, hb⟩
theorem two_out {w : World} {l : List Nat} (hl : ∀ x ∈ l, x < 256) : ∀ e w', OutTo w l e w' → TwoTo w l 0 e w' := by
  rintro e w' ⟨v, rfl, ho, hb⟩
  obtain ⟨A, c, rfl, h1, h2, h3⟩ := ho.out hl
  exact ⟨_, rfl, ⟨A, c, rfl, h1, h3⟩, hb⟩

end Go.Proofs.YtnofalgcpgheoaaDoor
