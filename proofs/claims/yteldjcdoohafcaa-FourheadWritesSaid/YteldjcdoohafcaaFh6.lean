/-
  Equality of two headers' fields that are the same.
-/
import Derived.Test.YteldjcdoohafcaaFh5
import Derived.DeepKeys
namespace Go.Proofs.Yteldjcdoohafcaa
open Go.RowKit
set_option linter.unusedVariables false

theorem lit_i64 {n : Nat} (h : n < 65536) : (Lit.int .i64 (n : Int)).wf = true := by
  have h1 : IntKind.min .i64 ≤ (n : Int) := by show (-9223372036854775808 : Int) ≤ _; omega
  have h2 : (n : Int) ≤ IntKind.max .i64 := by show _ ≤ (9223372036854775807 : Int); omega
  show (decide (IntKind.min .i64 ≤ (n : Int)) && decide ((n : Int) ≤ IntKind.max .i64)) = true
  rw [decide_eq_true h1, decide_eq_true h2]
  rfl
theorem lit_u8 {n : Nat} (h : n < 256) : (Lit.int .u8 (n : Int)).wf = true := by
  have h1 : IntKind.min .u8 ≤ (n : Int) := by show (0 : Int) ≤ _; omega
  have h2 : (n : Int) ≤ IntKind.max .u8 := by show _ ≤ (255 : Int); omega
  show (decide (IntKind.min .u8 ≤ (n : Int)) && decide ((n : Int) ≤ IntKind.max .u8)) = true
  rw [decide_eq_true h1, decide_eq_true h2]
  rfl
theorem cells_four : Try.prog.cellsOf 25 = 17 := by kernel_rfl
theorem cells_a4 : Try.prog.cellsOf 23 = 4 := by kernel_rfl
theorem cells_int : Try.prog.cellsOf 3 = 1 := by kernel_rfl
theorem cells_u8 : Try.prog.cellsOf 5 = 1 := by kernel_rfl
theorem key_i64 (d : Nat) {n : Nat} (h : n < 65536) : Try.prog.keyLits (d + 1) 3 [.int .i64 (n : Int)] = some [.int .i64 (n : Int)] := by
  unfold Program.keyLits
  rw [Try.underlying3]
  simp [lit_i64 h]
theorem key_u8 (d : Nat) {n : Nat} (h : n < 256) : Try.prog.keyLits (d + 1) 5 [.int .u8 (n : Int)] = some [.int .u8 (n : Int)] := by
  unfold Program.keyLits
  rw [Try.underlying5]
  simp [lit_u8 h]
theorem key_a4 (d : Nat) {a b c e : Nat} (ha : a < 256) (hb : b < 256) (hc : c < 256) (he : e < 256) : Try.prog.keyLits (d + 2) 23 [.int .u8 (a : Int), .int .u8 (b : Int), .int .u8 (c : Int), .int .u8 (e : Int)] = some [.int .u8 (a : Int), .int .u8 (b : Int), .int .u8 (c : Int), .int .u8 (e : Int)] := by
  unfold Program.keyLits
  rw [Try.underlying23]
  simp [cells_a4, cells_u8, List.range_succ, key_u8 d ha, key_u8 d hb, key_u8 d hc, key_u8 d he]
set_option maxRecDepth 10000 in
theorem key_fhf {bs : List Nat} (h : ∀ k, bs.getD k 0 < 256) : ∃ ls, Try.prog.keyLits 4 25 (fhf bs) = some ls := by
  have w2 := fhw_lt h 2
  have w4 := fhw_lt h 4
  have w6 : fhw bs 6 % 8192 < 65536 := by omega
  have w10 := fhw_lt h 10
  have b0 : bs.getD 0 0 % 16 < 65536 := by omega
  have b1 : bs.getD 1 0 < 65536 := by have := h 1; omega
  have b6 : bs.getD 6 0 / 32 < 65536 := by have := h 6; omega
  have b8 : bs.getD 8 0 < 65536 := by have := h 8; omega
  have b9 : bs.getD 9 0 < 65536 := by have := h 9; omega
  have k0 := key_i64 2 b0
  have k1 := key_i64 2 b1
  have k2 := key_i64 2 w2
  have k3 := key_i64 2 w4
  have k4 := key_i64 2 b6
  have k5 := key_i64 2 w6
  have k6 := key_i64 2 b8
  have k7 := key_i64 2 b9
  have k8 := key_i64 2 w10
  have k9 := key_a4 1 (h 12) (h 13) (h 14) (h 15)
  have k10 := key_a4 1 (h 16) (h 17) (h 18) (h 19)
  unfold fhf
  generalize bs.getD 0 0 % 16 = x0 at *
  generalize bs.getD 6 0 / 32 = x4 at *
  generalize fhw bs 6 % 8192 = x5 at *
  generalize fhw bs 2 = x2 at *
  generalize fhw bs 4 = x3 at *
  generalize fhw bs 10 = x8 at *
  generalize bs.getD 1 0 = x1 at *
  generalize bs.getD 8 0 = x6 at *
  generalize bs.getD 9 0 = x7 at *
  generalize bs.getD 12 0 = y0 at *
  generalize bs.getD 13 0 = y1 at *
  generalize bs.getD 14 0 = y2 at *
  generalize bs.getD 15 0 = y3 at *
  generalize bs.getD 16 0 = y4 at *
  generalize bs.getD 17 0 = y5 at *
  generalize bs.getD 18 0 = y6 at *
  generalize bs.getD 19 0 = y7 at *
  clear w2 w4 w6 w10 b0 b1 b6 b8 b9 h
  unfold Program.keyLits
  rw [Try.underlying25]
  simp [cells_four, cells_a4, cells_int, k0, k1, k2, k3, k4, k5, k6, k7, k8, k9, k10]
/-- The fields of a header are equal to themselves. -/
theorem four_same {bs : List Nat} (h : ∀ k, bs.getD k 0 < 256) (w : World) : (Op.equalIn 10000 25 (.agg (fhf bs).toArray) (.agg (fhf bs).toArray)).run Try.prog w = .ok true w := by
  obtain ⟨ls, hl⟩ := key_fhf h
  obtain ⟨r, hr, hi⟩ := run_equalIn_deep (P := Try.prog) 9990 10 25 (by kernel_rfl) w 4 4 (.agg (fhf bs).toArray) (.agg (fhf bs).toArray) ls ls (by kernel_rfl) (by kernel_rfl) (by simpa [Value.cells] using hl) (by simpa [Value.cells] using hl)
  rw [hi.2 rfl] at hr
  exact hr
end Go.Proofs.Yteldjcdoohafcaa
