/-
  An address of version 6 that stands for one of version 4; what was printed is read as it was: for the walks of layer 6.
-/
import Derived.Test.YtaicmadeobglfaaDoorCol10
import Derived.Test.YtaicmadeobglfaaDoorCol11
namespace Go.Proofs.YtaicmadeobglfaaDoor
open Go.RowKit
set_option linter.unusedVariables false

theorem split16 {X : List Nat} (hX : X.length = 16) : ∃ a b c d e f g h i j k l m n o p, X = [a, b, c, d, e, f, g, h, i, j, k, l, m, n, o, p] := by
  match X, hX with
  | [a, b, c, d, e, f, g, h, i, j, k, l, m, n, o, p], _ => exact ⟨a, b, c, d, e, f, g, h, i, j, k, l, m, n, o, p, rfl⟩
theorem byte_back {x y : Nat} (hy : y < 256) : (x * 256 + y) / 256 = x ∧ (x * 256 + y) % 256 = y := by omega
theorem addr_grps {X : List Nat} (hX : X.length = 16) (bX : ∀ x ∈ X, x < 256) : addrB (grps X) = X := by
  obtain ⟨a, b, c, d, e, f, g, h, i, j, k, l, m, n, o, p, rfl⟩ := split16 hX
  have hb := fun x hx => bX x hx
  have e1 : grps [a, b, c, d, e, f, g, h, i, j, k, l, m, n, o, p] = [a * 256 + b, c * 256 + d, e * 256 + f, g * 256 + h, i * 256 + j, k * 256 + l, m * 256 + n, o * 256 + p] := rfl
  rw [e1]
  have B := fun x y (hy : y < 256) => byte_back (x := x) hy
  simp only [addrB, List.flatMap_cons, List.flatMap_nil, List.cons_append, List.nil_append]
  rw [(B a b (hb b (by simp))).1, (B a b (hb b (by simp))).2, (B c d (hb d (by simp))).1, (B c d (hb d (by simp))).2, (B e f (hb f (by simp))).1, (B e f (hb f (by simp))).2, (B g h (hb h (by simp))).1, (B g h (hb h (by simp))).2,
    (B i j (hb j (by simp))).1, (B i j (hb j (by simp))).2, (B k l (hb l (by simp))).1, (B k l (hb l (by simp))).2, (B m n (hb n (by simp))).1, (B m n (hb n (by simp))).2, (B o p (hb p (by simp))).1, (B o p (hb p (by simp))).2]
/-- Parse of what Print told. -/
theorem cparse_printed (X : List Nat) (w : World) (hX : X.length = 16) (bX : ∀ x ∈ X, x < 256) (hB : Bru w) (hm : MaxL w) :
    Calls Tryd.prog 24 #[.string (pstr6 (grps X))] w fun e w' => e = .returned (.tuple #[.agg (bcells X).toArray, .int .i64 0]) ∧ Below w.heap.size w w' := by
  have hl := colPrint_len (grps_lt bX) (grps_length X)
  have hs : (pstr6 (grps X)).size < 4294967000 := by
    have : (pstr6 (grps X)).size = (colPrint (grps X)).length := by simp [pstr6, ByteArray.size]
    omega
  refine (cparse_any (pstr6 (grps X)) w hs hB hm).mono ?_
  rintro e w' ⟨rfl, hb⟩
  have h := colParse_print (grps_lt bX) (grps_length X)
  have e1 : (pstr6 (grps X)).data.toList = colPrint (grps X) := by simp [pstr6]
  rw [e1, h]
  refine ⟨?_, hb⟩
  show Ending.returned (.tuple #[.agg (bcells (addrB (grps X))).toArray, .int .i64 0]) = _
  rw [addr_grps hX bX]
theorem addr_stored (W : World) (X : List Nat) (hX : X.length = 16) :
    (storeCells ⟨W.heap.size, 0, none⟩ (bcells X)).run Tryd.prog (W.alloc (.cells #[.int .u8 0, .int .u8 0, .int .u8 0, .int .u8 0, .int .u8 0, .int .u8 0, .int .u8 0, .int .u8 0, .int .u8 0, .int .u8 0, .int .u8 0, .int .u8 0, .int .u8 0, .int .u8 0, .int .u8 0, .int .u8 0] 22)) = .ok () ((W.alloc (.cells #[.int .u8 0, .int .u8 0, .int .u8 0, .int .u8 0, .int .u8 0, .int .u8 0, .int .u8 0, .int .u8 0, .int .u8 0, .int .u8 0, .int .u8 0, .int .u8 0, .int .u8 0, .int .u8 0, .int .u8 0, .int .u8 0] 22)).setCells W.heap.size 0 (bcells X)) ∧
    ArrV 22 ((W.alloc (.cells #[.int .u8 0, .int .u8 0, .int .u8 0, .int .u8 0, .int .u8 0, .int .u8 0, .int .u8 0, .int .u8 0, .int .u8 0, .int .u8 0, .int .u8 0, .int .u8 0, .int .u8 0, .int .u8 0, .int .u8 0, .int .u8 0] 22)).setCells W.heap.size 0 (bcells X)) W.heap.size (bcells X) ∧ Below W.heap.size W ((W.alloc (.cells #[.int .u8 0, .int .u8 0, .int .u8 0, .int .u8 0, .int .u8 0, .int .u8 0, .int .u8 0, .int .u8 0, .int .u8 0, .int .u8 0, .int .u8 0, .int .u8 0, .int .u8 0, .int .u8 0, .int .u8 0, .int .u8 0] 22)).setCells W.heap.size 0 (bcells X)) := by
  have h : ArrV 22 (W.alloc (.cells #[.int .u8 0, .int .u8 0, .int .u8 0, .int .u8 0, .int .u8 0, .int .u8 0, .int .u8 0, .int .u8 0, .int .u8 0, .int .u8 0, .int .u8 0, .int .u8 0, .int .u8 0, .int .u8 0, .int .u8 0, .int .u8 0] 22)) W.heap.size (bcells zero16) := ArrV.new _ W _
  have hl : (bcells X).length = 16 := by rw [bcells_length, hX]
  exact ⟨h.stCells _ (by rw [hl]; rfl) (bcells_one _), h.store _ (by rw [hl]; rfl), setCells_below _ (Nat.le_refl _) _ _ _ ((Below.refl _ _).alloc (Nat.le_refl _) _)⟩
/-- The mapped address. -/
structure Mapped (a b c d : Nat) (X : List Nat) : Prop where
  is : X = mp ++ [a, b, c, d]
  len : X.length = 16
  lt : ∀ x ∈ X, x < 256
theorem mapped_of {a b c d : Nat} (ha : a ≤ 255) (hb : b ≤ 255) (hc : c ≤ 255) (hd : d ≤ 255) : Mapped a b c d (mp ++ [a, b, c, d]) := ⟨rfl, rfl, fun x hx => by simp [mp] at hx; omega⟩
theorem Mapped.g6 {a b c d : Nat} {X : List Nat} (h : Mapped a b c d X) : grp X 6 = a * 256 + b := by rw [h.is]; rfl
theorem Mapped.g7 {a b c d : Nat} {X : List Nat} (h : Mapped a b c d X) : grp X 7 = c * 256 + d := by rw [h.is]; rfl
theorem Mapped.sort {a b c d : Nat} {X : List Nat} (h : Mapped a b c d X) : csort X = ⟨#[102, 111, 117, 114]⟩ := by
  have h0 : X ≠ zero16 := by rw [h.is]; intro e; have := congrArg (fun l => l.getD 10 0) e; simp [mp, zero16] at this
  have h1 : X ≠ loop16 := by rw [h.is]; intro e; have := congrArg (fun l => l.getD 10 0) e; simp [mp, loop16] at this
  have h2 : X.take 12 = mp := by rw [h.is]; rfl
  rw [csort, if_neg h0, if_neg h1, if_pos h2]
/-- Sixteen cells, one by one. -/
theorem cells16 {t : TypeId} {W : World} {g : Nat} {x0 x1 x2 x3 x4 x5 x6 x7 x8 x9 x10 x11 x12 x13 x14 x15 : Nat} (h : ArrV t W g (bcells [x0, x1, x2, x3, x4, x5, x6, x7, x8, x9, x10, x11, x12, x13, x14, x15])) :
    W.cell? ⟨g, 0, none⟩ = some (.int .u8 (x0 : Nat)) ∧ W.cell? ⟨g, 1, none⟩ = some (.int .u8 (x1 : Nat)) ∧ W.cell? ⟨g, 2, none⟩ = some (.int .u8 (x2 : Nat)) ∧ W.cell? ⟨g, 3, none⟩ = some (.int .u8 (x3 : Nat)) ∧ W.cell? ⟨g, 4, none⟩ = some (.int .u8 (x4 : Nat)) ∧ W.cell? ⟨g, 5, none⟩ = some (.int .u8 (x5 : Nat)) ∧ W.cell? ⟨g, 6, none⟩ = some (.int .u8 (x6 : Nat)) ∧ W.cell? ⟨g, 7, none⟩ = some (.int .u8 (x7 : Nat)) ∧ W.cell? ⟨g, 8, none⟩ = some (.int .u8 (x8 : Nat)) ∧ W.cell? ⟨g, 9, none⟩ = some (.int .u8 (x9 : Nat)) ∧ W.cell? ⟨g, 10, none⟩ = some (.int .u8 (x10 : Nat)) ∧ W.cell? ⟨g, 11, none⟩ = some (.int .u8 (x11 : Nat)) ∧ W.cell? ⟨g, 12, none⟩ = some (.int .u8 (x12 : Nat)) ∧ W.cell? ⟨g, 13, none⟩ = some (.int .u8 (x13 : Nat)) ∧ W.cell? ⟨g, 14, none⟩ = some (.int .u8 (x14 : Nat)) ∧ W.cell? ⟨g, 15, none⟩ = some (.int .u8 (x15 : Nat)) := by
  refine ⟨?_, ?_, ?_, ?_, ?_, ?_, ?_, ?_, ?_, ?_, ?_, ?_, ?_, ?_, ?_, ?_⟩
  all_goals (rw [h.get]; rfl)
theorem cells4 {t : TypeId} {W : World} {g : Nat} {x y z u : Nat} (h : ArrV t W g (bcells [x, y, z, u])) :
    W.cell? ⟨g, 0, none⟩ = some (.int .u8 (x : Nat)) ∧ W.cell? ⟨g, 1, none⟩ = some (.int .u8 (y : Nat)) ∧ W.cell? ⟨g, 2, none⟩ = some (.int .u8 (z : Nat)) ∧ W.cell? ⟨g, 3, none⟩ = some (.int .u8 (u : Nat)) := by
  refine ⟨?_, ?_, ?_, ?_⟩
  all_goals (rw [h.get]; rfl)
/-- A mapped address, cell by cell. -/
theorem mapped_cells {t : TypeId} {W : World} {g a b c d : Nat} (h : ArrV t W g (bcells (mp ++ [a, b, c, d]))) :
    W.cell? ⟨g, 0, none⟩ = some (.int .u8 0) ∧ W.cell? ⟨g, 1, none⟩ = some (.int .u8 0) ∧ W.cell? ⟨g, 2, none⟩ = some (.int .u8 0) ∧ W.cell? ⟨g, 3, none⟩ = some (.int .u8 0) ∧ W.cell? ⟨g, 4, none⟩ = some (.int .u8 0) ∧ W.cell? ⟨g, 5, none⟩ = some (.int .u8 0) ∧ W.cell? ⟨g, 6, none⟩ = some (.int .u8 0) ∧ W.cell? ⟨g, 7, none⟩ = some (.int .u8 0) ∧ W.cell? ⟨g, 8, none⟩ = some (.int .u8 0) ∧ W.cell? ⟨g, 9, none⟩ = some (.int .u8 0) ∧ W.cell? ⟨g, 10, none⟩ = some (.int .u8 255) ∧ W.cell? ⟨g, 11, none⟩ = some (.int .u8 255) ∧ W.cell? ⟨g, 12, none⟩ = some (.int .u8 a) ∧ W.cell? ⟨g, 13, none⟩ = some (.int .u8 b) ∧ W.cell? ⟨g, 14, none⟩ = some (.int .u8 c) ∧ W.cell? ⟨g, 15, none⟩ = some (.int .u8 d) := by
  obtain ⟨c0, c1, c2, c3, c4, c5, c6, c7, c8, c9, c10, c11, c12, c13, c14, c15⟩ := cells16 (x0 := 0) (x1 := 0) (x2 := 0) (x3 := 0) (x4 := 0) (x5 := 0) (x6 := 0) (x7 := 0) (x8 := 0) (x9 := 0) (x10 := 255) (x11 := 255) (x12 := a) (x13 := b) (x14 := c) (x15 := d) h
  exact ⟨c0, c1, c2, c3, c4, c5, c6, c7, c8, c9, c10, c11, c12, c13, c14, c15⟩
/-- What of the library's variables the walks of layer 6 need. -/
structure Six (w : World) : Prop where
  pow : Pow w
  bru : Bru w
  max : MaxL w
theorem Six.below {w w' : World} (h : Six w) (hb : Below w.heap.size w w') : Six w' := ⟨h.pow.below hb, h.bru.below hb, h.max.below hb⟩
end Go.Proofs.YtaicmadeobglfaaDoor
