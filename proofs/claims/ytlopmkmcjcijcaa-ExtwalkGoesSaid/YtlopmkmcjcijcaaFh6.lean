/-
  Equality of two headers' fields that are the same.
-/
import Derived.Test.YtlopmkmcjcijcaaFh5
import Derived.DeepKeys
namespace Go.Proofs.Ytlopmkmcjcijcaa
open Go.RowKit
set_option linter.unusedVariables false

theorem lit_i64 {n : Nat} (h : n < 65536) : (Lit.int .i64 (n : Int)).wf = true := by
  have h1 : IntKind.min .i64 ≤ (n : Int) := by show (-9223372036854775808 : Int) ≤ _; omega
  have h2 : (n : Int) ≤ IntKind.max .i64 := by show _ ≤ (9223372036854775807 : Int); omega
  show (decide (IntKind.min .i64 ≤ (n : Int)) && decide ((n : Int) ≤ IntKind.max .i64)) = true
  rw [decide_eq_true h1, decide_eq_true h2]
  rfl
theorem lit_u8 {n : Nat} (h : n < 256) : (Lit.int .u8 (n : Int)).wf = true := by
  have h1 : IntKind.min .u8 ≤ (n : Int) := by show (0 : Int) ≤ _; omega
  have h2 : (n : Int) ≤ IntKind.max .u8 := by show _ ≤ (255 : Int); omega
  show (decide (IntKind.min .u8 ≤ (n : Int)) && decide ((n : Int) ≤ IntKind.max .u8)) = true
  rw [decide_eq_true h1, decide_eq_true h2]
  rfl
theorem cells_int : Try.prog.cellsOf 3 = 1 := by kernel_rfl
theorem cells_u8 : Try.prog.cellsOf 5 = 1 := by kernel_rfl
theorem key_i64 (d : Nat) {n : Nat} (h : n < 65536) : Try.prog.keyLits (d + 1) 3 [.int .i64 (n : Int)] = some [.int .i64 (n : Int)] := by
  unfold Program.keyLits
  rw [Try.underlying3]
  simp [lit_i64 h]
theorem key_u8 (d : Nat) {n : Nat} (h : n < 256) : Try.prog.keyLits (d + 1) 5 [.int .u8 (n : Int)] = some [.int .u8 (n : Int)] := by
  unfold Program.keyLits
  rw [Try.underlying5]
  simp [lit_u8 h]
end Go.Proofs.Ytlopmkmcjcijcaa
