/-
  The contract of the document's Join: bytes one behind the other, in new memory.
-/
import Derived.Test.YtnofalgcpgheoaaDoorOwn
namespace Go.Proofs.YtnofalgcpgheoaaDoor
open Go.RowKit
set_option linter.unusedVariables false

/-- A slice that came in: its address, length, capacity, and bytes. -/
structure Piece where
  a : Option Addr
  n : Nat
  c : Nat
  bs : List Nat
def Piece.val (p : Piece) : Value := .slice p.a p.n p.c
/-- The pieces lie in block g, one a cell, and each reads as its bytes. -/
def Pieces (w : World) (g : Nat) (ps : List Piece) : Prop :=
  ∀ i, i < ps.length → ∃ p, ps[i]? = some p ∧ w.cell? ⟨g, i, none⟩ = some p.val ∧ Row w p.a p.n p.bs ∧ p.n ≤ 140737488355328
def flat (ps : List Piece) : List Nat := ps.flatMap Piece.bs
theorem Pieces.below {w w' : World} {g : Nat} {ps : List Piece} (h : Pieces w g ps) (hb : Below w.heap.size w w') : Pieces w' g ps := fun i hi => by
  obtain ⟨p, h1, h2, h3, h4⟩ := h i hi
  exact ⟨p, h1, (hb.cell (cell_lt h2)).trans h2, h3.below hb, h4⟩
theorem flat_succ {ps : List Piece} {i : Nat} {p : Piece} (h : ps[i]? = some p) : flat (ps.take (i + 1)) = flat (ps.take i) ++ p.bs := by
  obtain ⟨hi, he⟩ := List.getElem?_eq_some_iff.1 h
  rw [List.take_succ_eq_append_getElem hi, he]
  simp [flat]
theorem flat_le {ps : List Piece} {i : Nat} {p : Piece} (h : ps[i]? = some p) : (flat (ps.take i)).length + p.bs.length ≤ (flat ps).length := by
  have h1 := flat_succ h
  have h2 : flat ps = flat (ps.take (i + 1)) ++ flat (ps.drop (i + 1)) := by
    unfold flat
    rw [← List.flatMap_append, List.take_append_drop]
  rw [h2, h1]
  simp
  
end Go.Proofs.YtnofalgcpgheoaaDoor
