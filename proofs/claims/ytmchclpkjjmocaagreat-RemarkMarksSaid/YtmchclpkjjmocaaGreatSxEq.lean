/-
  Equality of two headers of version 6 that are the same.
-/
import Derived.Test.YtmchclpkjjmocaaGreatFh4
import Derived.Test.YtmchclpkjjmocaaGreatSx4
namespace Go.Proofs.YtmchclpkjjmocaaGreat
open Go.RowKit
set_option linter.unusedVariables false

theorem lit_int {k : Int} (h : -9223372036854775808 ≤ k ∧ k ≤ 9223372036854775807) : (Lit.int .i64 k).wf = true := by
  have h1 : IntKind.min .i64 ≤ k := h.1
  have h2 : k ≤ IntKind.max .i64 := h.2
  show (decide (IntKind.min .i64 ≤ k) && decide (k ≤ IntKind.max .i64)) = true
  rw [decide_eq_true h1, decide_eq_true h2]
  rfl
theorem key_int (d : Nat) {k : Int} (h : -9223372036854775808 ≤ k ∧ k ≤ 9223372036854775807) : Tryz.prog.keyLits (d + 1) 3 [.int .i64 k] = some [.int .i64 k] := by
  unfold Program.keyLits
  rw [Tryz.underlying3]
  simp [lit_int h]
theorem cells_six : Tryz.prog.cellsOf 95 = 37 := by kernel_rfl
theorem cells_a16 : Tryz.prog.cellsOf 35 = 16 := by kernel_rfl
theorem sixteen {l : List Nat} (h : l.length = 16) : ∃ a b c d e f g i j k m n o p q r, l = [a, b, c, d, e, f, g, i, j, k, m, n, o, p, q, r] := by
  match l, h with
  | [a, b, c, d, e, f, g, i, j, k, m, n, o, p, q, r], _ => exact ⟨a, b, c, d, e, f, g, i, j, k, m, n, o, p, q, r, rfl⟩
theorem key_a16 (d : Nat) {l : List Nat} (hl : l.length = 16) (hb : ∀ x ∈ l, x < 256) : ∃ ls, Tryz.prog.keyLits (d + 2) 35 (bcells l) = some ls := by
  obtain ⟨a, b, c, d', e, f, g, i, j, k, m, n, o, p, q, r, rfl⟩ := sixteen hl
  refine ⟨[.int .u8 (a : Int), .int .u8 (b : Int), .int .u8 (c : Int), .int .u8 (d' : Int), .int .u8 (e : Int), .int .u8 (f : Int), .int .u8 (g : Int), .int .u8 (i : Int), .int .u8 (j : Int), .int .u8 (k : Int), .int .u8 (m : Int), .int .u8 (n : Int), .int .u8 (o : Int), .int .u8 (p : Int), .int .u8 (q : Int), .int .u8 (r : Int)], ?_⟩
  unfold Program.keyLits bcells
  rw [Tryz.underlying35]
  simp at hb
  obtain ⟨h0, h1, h2, h3, h4, h5, h6, h7, h8, h9, h10, h11, h12, h13, h14, h15⟩ := hb
  simp [cells_a16, cells_u8, List.range_succ, key_u8 d h0, key_u8 d h1, key_u8 d h2, key_u8 d h3, key_u8 d h4, key_u8 d h5, key_u8 d h6, key_u8 d h7, key_u8 d h8, key_u8 d h9, key_u8 d h10, key_u8 d h11, key_u8 d h12, key_u8 d h13, key_u8 d h14, key_u8 d h15]
set_option maxRecDepth 10000 in
theorem key_six {f : SixV} (hs : f.src.length = 16) (hd : f.dst.length = 16) (hsb : ∀ x ∈ f.src, x < 256) (hdb : ∀ x ∈ f.dst, x < 256) (hk : ∀ j, -9223372036854775808 ≤ f.k j ∧ f.k j ≤ 9223372036854775807) : ∃ ls, Tryz.prog.keyLits 4 95 f.cells = some ls := by
  obtain ⟨l1, k5⟩ := key_a16 1 hs hsb
  obtain ⟨l2, k6⟩ := key_a16 1 hd hdb
  have k0 := key_int 2 (hk 0)
  have k1 := key_int 2 (hk 1)
  have k2 := key_int 2 (hk 2)
  have k3 := key_int 2 (hk 3)
  have k4 := key_int 2 (hk 4)
  refine ⟨[.int .i64 (f.k 0), .int .i64 (f.k 1), .int .i64 (f.k 2), .int .i64 (f.k 3), .int .i64 (f.k 4)] ++ l1 ++ l2, ?_⟩
  unfold SixV.cells
  obtain ⟨L, hL⟩ : ∃ L, L = bcells f.src := ⟨_, rfl⟩
  obtain ⟨M, hM⟩ : ∃ M, M = bcells f.dst := ⟨_, rfl⟩
  have hLl : L.length = 16 := by rw [hL, bcells_length, hs]
  have hMl : M.length = 16 := by rw [hM, bcells_length, hd]
  rw [← hL] at k5 ⊢
  rw [← hM] at k6 ⊢
  have d5 : List.take 16 (L ++ M) = L := List.take_left' hLl
  have d7 : List.take 16 M = M := List.take_of_length_le (by rw [hMl]; exact Nat.le_refl _)
  unfold Program.keyLits
  rw [Tryz.underlying95]
  simp [cells_six, cells_a16, cells_int, k0, k1, k2, k3, k4, k5, k6, hLl, hMl, d5, d7]
/-- A header is equal to itself. -/
theorem six_same {f : SixV} (hs : f.src.length = 16) (hd : f.dst.length = 16) (hsb : ∀ x ∈ f.src, x < 256) (hdb : ∀ x ∈ f.dst, x < 256) (hk : ∀ j, -9223372036854775808 ≤ f.k j ∧ f.k j ≤ 9223372036854775807) (w : World) :
    (Op.equalIn 10000 95 (.agg f.cells.toArray) (.agg f.cells.toArray)).run Tryz.prog w = .ok true w := by
  obtain ⟨ls, hl⟩ := key_six hs hd hsb hdb hk
  have hf : (Value.agg f.cells.toArray).formed Tryz.prog 95 = true := by simp [Value.formed, Tryz.underlying95, cells_six, (SixV.cells_all hs hd).1]
  obtain ⟨r, hr, hi⟩ := run_equalIn_deep (P := Tryz.prog) 9990 10 95 (by kernel_rfl) w 4 4 (.agg f.cells.toArray) (.agg f.cells.toArray) ls ls hf hf (by simpa [Value.cells] using hl) (by simpa [Value.cells] using hl)
  rw [hi.2 rfl] at hr
  exact hr
end Go.Proofs.YtmchclpkjjmocaaGreat
