/-
  Plain arithmetic: the bytes of a number. Nothing of the program.
-/
import Derived.Test.YtlopmkmcjcijcaaPlain
namespace Go.Proofs.Ytlopmkmcjcijcaa

/-- The m bytes of n, the highest first. -/
def pb (n m : Nat) : List Nat := (List.range m).map fun i => n / 256 ^ (m - 1 - i) % 256

theorem pb_length (n m : Nat) : (pb n m).length = m := by simp [pb]
theorem pb_byte (n m : Nat) : ∀ x ∈ pb n m, x < 256 := by
  intro x hx
  simp only [pb, List.mem_map] at hx
  obtain ⟨i, _, rfl⟩ := hx
  omega
theorem pb_get (n m i : Nat) (h : i < m) : (pb n m).getD i 0 = n / 256 ^ (m - 1 - i) % 256 := by
  rw [List.getD_eq_getElem?_getD, List.getElem?_eq_getElem (by rw [pb_length]; exact h)]
  simp [pb]
theorem pow256 (k : Nat) : 256 ^ k = 2 ^ (8 * k) := by rw [Nat.pow_mul]
theorem pow8_le {m : Nat} (h : m ≤ 8) : 256 ^ m ≤ 18446744073709551616 := by
  have h1 : 256 ^ m ≤ 256 ^ 8 := Nat.pow_le_pow_right (by omega) h
  have h3 : 256 ^ 8 = 18446744073709551616 := by decide
  omega
/-- The highest byte first: one more byte in front of the lower ones. -/
theorem pb_succ (n m : Nat) : pb n (m + 1) = n / 256 ^ m % 256 :: pb n m := by
  unfold pb
  rw [List.range_succ_eq_map]
  simp only [List.map_cons, List.map_map, Nat.sub_zero, Nat.add_sub_cancel]
  congr 1
  apply List.map_congr_left
  intro i _
  simp only [Function.comp, Nat.succ_eq_add_one]
  rw [show m - (i + 1) = m - 1 - i from by omega]
theorem foldl_acc (l : List Nat) (a : Nat) : l.foldl (fun n x => n * 256 + x) a = a * 256 ^ l.length + be l := by
  induction l generalizing a with
  | nil => simp [be]
  | cons x l ih =>
    rw [be, List.foldl_cons, List.foldl_cons, ih, ih (0 * 256 + x), List.length_cons, Nat.pow_succ, Nat.add_mul, Nat.zero_mul, Nat.zero_add, Nat.mul_assoc, Nat.mul_comm 256, Nat.add_assoc]
theorem be_cons (x : Nat) (l : List Nat) : be (x :: l) = x * 256 ^ l.length + be l := by
  rw [be, List.foldl_cons, foldl_acc]; simp
/-- What is read of the bytes of n is n. -/
theorem be_pb (n m : Nat) : be (pb n m) = n % 256 ^ m := by
  induction m with
  | zero => simp [pb, be, Nat.mod_one]
  | succ m ih =>
    rw [pb_succ, be_cons, pb_length, ih, Nat.pow_succ, Nat.mod_mul, Nat.mul_comm (256 ^ m), Nat.add_comm]
/-- 'byte(n >> (8*k))'. -/
theorem byte_shr (n k : Nat) : IntKind.u8.wrap ((n : Int) / 2 ^ (8 * k)) = ((n / 256 ^ k % 256 : Nat) : Int) := by
  rw [IntKind.wrap_u8', pow256]
  simp
end Go.Proofs.Ytlopmkmcjcijcaa
