/-
  Plain arithmetic of bytes: big-endian numbers. Nothing of the program.
-/
import Derived.Laws.BitsAllLaws
namespace Go.Proofs.Ytlopmkmcjcijcaa

/-- The big-endian number of some bytes. -/
def be (l : List Nat) : Nat := l.foldl (fun n x => n * 256 + x) 0

theorem be_nil : be [] = 0 := rfl
theorem be_snoc (l : List Nat) (x : Nat) : be (l ++ [x]) = be l * 256 + x := by simp [be]
theorem be_acc (l : List Nat) (h : ∀ x ∈ l, x < 256) (a : Nat) : l.foldl (fun n x => n * 256 + x) a < (a + 1) * 256 ^ l.length := by
  induction l generalizing a with
  | nil => simp
  | cons x l ih =>
    have h1 := ih (fun y hy => h y (by simp [hy])) (a * 256 + x)
    have h2 := h x (by simp)
    rw [List.foldl_cons, List.length_cons, Nat.pow_succ, Nat.mul_comm (256 ^ l.length) 256, ← Nat.mul_assoc]
    exact Nat.lt_of_lt_of_le h1 (Nat.mul_le_mul_right _ (by omega))
theorem be_lt (l : List Nat) (h : ∀ x ∈ l, x < 256) : be l < 256 ^ l.length := by
  have h1 := be_acc l h 0
  simpa [be] using h1
theorem be_lt8 (l : List Nat) (h : ∀ x ∈ l, x < 256) (hl : l.length ≤ 8) : be l ≤ 18446744073709551615 := by
  have h1 := be_lt l h
  have h2 : 256 ^ l.length ≤ 256 ^ 8 := Nat.pow_le_pow_right (by omega) hl
  have h3 : 256 ^ 8 = 18446744073709551616 := by decide
  omega
theorem be_lt7 (l : List Nat) (h : ∀ x ∈ l, x < 256) (hl : l.length ≤ 7) : be l ≤ 72057594037927935 := by
  have h1 := be_lt l h
  have h2 : 256 ^ l.length ≤ 256 ^ 7 := Nat.pow_le_pow_right (by omega) hl
  have h3 : 256 ^ 7 = 72057594037927936 := by decide
  omega
theorem mem_take {l : List Nat} {k : Nat} (h : ∀ x ∈ l, x < 256) : ∀ x ∈ l.take k, x < 256 := fun x hx => h x (List.mem_of_mem_take hx)
theorem mem_drop {l : List Nat} {k : Nat} (h : ∀ x ∈ l, x < 256) : ∀ x ∈ l.drop k, x < 256 := fun x hx => h x (List.mem_of_mem_drop hx)
theorem take_succ_getD (l : List Nat) (k : Nat) (h : k < l.length) : l.take (k + 1) = l.take k ++ [l.getD k 0] := by
  rw [List.take_succ_eq_append_getElem h, List.getD_eq_getElem?_getD, List.getElem?_eq_getElem h]; rfl
theorem be_step (l : List Nat) (k : Nat) (h : k < l.length) : be (l.take (k + 1)) = be (l.take k) * 256 + l.getD k 0 := by rw [take_succ_getD l k h, be_snoc]

/-- 'n<<8 | x' where it fits. -/
theorem shl8_or (n x : Nat) (hn : n ≤ 72057594037927935) (hx : x < 256) : bits .or .u64 ((n : Int) * 256) (x : Int) = ((n * 256 + x : Nat) : Int) := by
  have h := u64_or_nat (n * 256) x (by omega) (by omega)
  rw [nat_join 8 (n * 256) x (by omega) (by omega)] at h
  simpa using h
end Go.Proofs.Ytlopmkmcjcijcaa
