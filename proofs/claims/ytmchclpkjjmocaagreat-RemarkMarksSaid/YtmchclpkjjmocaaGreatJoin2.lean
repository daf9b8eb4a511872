/-
  The document's Join of two, three and four pieces.
-/
import Derived.Test.YtmchclpkjjmocaaGreatJoin
namespace Go.Proofs.YtmchclpkjjmocaaGreat
open Go.RowKit
set_option linter.unusedVariables false

theorem pieces_two {w : World} {g : Nat} {p q : Piece} (h0 : w.cell? ⟨g, 0, none⟩ = some p.val) (h1 : w.cell? ⟨g, 1, none⟩ = some q.val) (r0 : Row w p.a p.n p.bs) (r1 : Row w q.a q.n q.bs) (n0 : p.n ≤ 140737488355328) (n1 : q.n ≤ 140737488355328) : Pieces w g [p, q] := fun i hi => by
  match i, hi with
  | 0, _ => exact ⟨p, rfl, h0, r0, n0⟩
  | 1, _ => exact ⟨q, rfl, h1, r1, n1⟩
theorem pieces_four {w : World} {g : Nat} {p q r s : Piece} (h0 : w.cell? ⟨g, 0, none⟩ = some p.val) (h1 : w.cell? ⟨g, 1, none⟩ = some q.val) (h2 : w.cell? ⟨g, 2, none⟩ = some r.val) (h3 : w.cell? ⟨g, 3, none⟩ = some s.val)
    (r0 : Row w p.a p.n p.bs) (r1 : Row w q.a q.n q.bs) (r2 : Row w r.a r.n r.bs) (r3 : Row w s.a s.n s.bs) (n0 : p.n ≤ 140737488355328) (n1 : q.n ≤ 140737488355328) (n2 : r.n ≤ 140737488355328) (n3 : s.n ≤ 140737488355328) : Pieces w g [p, q, r, s] := fun i hi => by
  match i, hi with
  | 0, _ => exact ⟨p, rfl, h0, r0, n0⟩
  | 1, _ => exact ⟨q, rfl, h1, r1, n1⟩
  | 2, _ => exact ⟨r, rfl, h2, r2, n2⟩
  | 3, _ => exact ⟨s, rfl, h3, r3, n3⟩
theorem pieces_three {w : World} {g : Nat} {p q r : Piece} (h0 : w.cell? ⟨g, 0, none⟩ = some p.val) (h1 : w.cell? ⟨g, 1, none⟩ = some q.val) (h2 : w.cell? ⟨g, 2, none⟩ = some r.val)
    (r0 : Row w p.a p.n p.bs) (r1 : Row w q.a q.n q.bs) (r2 : Row w r.a r.n r.bs) (n0 : p.n ≤ 140737488355328) (n1 : q.n ≤ 140737488355328) (n2 : r.n ≤ 140737488355328) : Pieces w g [p, q, r] := fun i hi => by
  match i, hi with
  | 0, _ => exact ⟨p, rfl, h0, r0, n0⟩
  | 1, _ => exact ⟨q, rfl, h1, r1, n1⟩
  | 2, _ => exact ⟨r, rfl, h2, r2, n2⟩
theorem join_two (g c n0 c0 n1 c1 : Nat) (A0 A1 : Option Addr) (l0 l1 : List Nat) (w : World) (h0 : w.cell? ⟨g, 0, none⟩ = some (.slice A0 n0 c0)) (h1 : w.cell? ⟨g, 1, none⟩ = some (.slice A1 n1 c1)) (r0 : Row w A0 n0 l0) (r1 : Row w A1 n1 l1) (hn : n0 + n1 ≤ 140737488355328) :
    Calls Tryz.prog 4 #[.slice (some ⟨g, 0, none⟩) 2 c] w fun e w' => ∃ v, e = .returned v ∧ OutIs w.heap.size w' v (l0 ++ l1) ∧ Below w.heap.size w w' := by
  have h := join_any g c [⟨A0, n0, c0, l0⟩, ⟨A1, n1, c1, l1⟩] w (by simp) (by simp [flat, r0.1, r1.1]; exact hn) (pieces_two h0 h1 r0 r1 (by show n0 ≤ _; omega) (by show n1 ≤ _; omega)) 2 rfl
  simpa [flat] using h
theorem join_four (g c n0 c0 n1 c1 n2 c2 n3 c3 : Nat) (A0 A1 A2 A3 : Option Addr) (l0 l1 l2 l3 : List Nat) (w : World) (h0 : w.cell? ⟨g, 0, none⟩ = some (.slice A0 n0 c0)) (h1 : w.cell? ⟨g, 1, none⟩ = some (.slice A1 n1 c1)) (h2 : w.cell? ⟨g, 2, none⟩ = some (.slice A2 n2 c2)) (h3 : w.cell? ⟨g, 3, none⟩ = some (.slice A3 n3 c3))
    (r0 : Row w A0 n0 l0) (r1 : Row w A1 n1 l1) (r2 : Row w A2 n2 l2) (r3 : Row w A3 n3 l3) (hn : n0 + n1 + n2 + n3 ≤ 140737488355328) :
    Calls Tryz.prog 4 #[.slice (some ⟨g, 0, none⟩) 4 c] w fun e w' => ∃ v, e = .returned v ∧ OutIs w.heap.size w' v (l0 ++ l1 ++ l2 ++ l3) ∧ Below w.heap.size w w' := by
  have h := join_any g c [⟨A0, n0, c0, l0⟩, ⟨A1, n1, c1, l1⟩, ⟨A2, n2, c2, l2⟩, ⟨A3, n3, c3, l3⟩] w (by simp) (by simp [flat, r0.1, r1.1, r2.1, r3.1]; omega) (pieces_four h0 h1 h2 h3 r0 r1 r2 r3 (by show n0 ≤ _; omega) (by show n1 ≤ _; omega) (by show n2 ≤ _; omega) (by show n3 ≤ _; omega)) 4 rfl
  simpa [flat] using h
theorem join_three (g c n0 c0 n1 c1 n2 c2 : Nat) (A0 A1 A2 : Option Addr) (l0 l1 l2 : List Nat) (w : World) (h0 : w.cell? ⟨g, 0, none⟩ = some (.slice A0 n0 c0)) (h1 : w.cell? ⟨g, 1, none⟩ = some (.slice A1 n1 c1)) (h2 : w.cell? ⟨g, 2, none⟩ = some (.slice A2 n2 c2))
    (r0 : Row w A0 n0 l0) (r1 : Row w A1 n1 l1) (r2 : Row w A2 n2 l2) (hn : n0 + n1 + n2 ≤ 140737488355328) :
    Calls Tryz.prog 4 #[.slice (some ⟨g, 0, none⟩) 3 c] w fun e w' => ∃ v, e = .returned v ∧ OutIs w.heap.size w' v (l0 ++ l1 ++ l2) ∧ Below w.heap.size w w' := by
  have h := join_any g c [⟨A0, n0, c0, l0⟩, ⟨A1, n1, c1, l1⟩, ⟨A2, n2, c2, l2⟩] w (by simp) (by simp [flat, r0.1, r1.1, r2.1]; omega) (pieces_three h0 h1 h2 r0 r1 r2 (by show n0 ≤ _; omega) (by show n1 ≤ _; omega) (by show n2 ≤ _; omega)) 3 rfl
  simpa [flat] using h
end Go.Proofs.YtmchclpkjjmocaaGreat
