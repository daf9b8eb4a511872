/-
  Plain arithmetic of a number's decimal digits. Nothing of the program.
-/
import Derived.Test.YtemgnaalmgkfiaaWPlain
namespace Go.Proofs.Ytemgnaalmgkfiaa

/-- The last k decimal digits, as letters, the highest one first. -/
def dtail (N : Nat) : Nat → List Nat
  | 0 => []
  | k + 1 => (48 + N / 10 ^ k % 10) :: dtail N k
theorem dtail_length (N k : Nat) : (dtail N k).length = k := by
  induction k with
  | zero => rfl
  | succ k ih => simp [dtail, ih]
theorem dtail_byte (N k : Nat) : ∀ x ∈ dtail N k, x < 256 := by
  induction k with
  | zero => intro x hx; cases hx
  | succ k ih =>
    intro x hx
    rcases List.mem_cons.1 hx with rfl | hx
    · have := Nat.mod_lt (N / 10 ^ k) (show 0 < 10 by decide)
      omega
    · exact ih x hx
/-- K is how many digits N has: at least one. -/
structure HasDigits (N K : Nat) : Prop where
  one : 1 ≤ K
  zero : N / 10 ^ K = 0
  more : ∀ j, 1 ≤ j → j < K → N / 10 ^ j ≠ 0
theorem div_pow_succ (N k : Nat) : N / 10 ^ k / 10 = N / 10 ^ (k + 1) := by rw [Nat.div_div_eq_div_mul, Nat.pow_succ]
theorem has_digits (N : Nat) (hN : N < w128) : ∃ K, HasDigits N K ∧ K ≤ 39 := by
  have h39 : N / 10 ^ 39 = 0 := Nat.div_eq_of_lt (Nat.lt_of_lt_of_le hN (by unfold w128; decide))
  have hex : ∀ n, (∃ k, 1 ≤ k ∧ k ≤ n ∧ N / 10 ^ k = 0) → ∃ K, HasDigits N K ∧ K ≤ n := by
    intro n
    induction n with
    | zero => rintro ⟨k, h1, h2, _⟩; omega
    | succ n ih =>
      rintro ⟨k, h1, h2, h3⟩
      by_cases h : ∃ k, 1 ≤ k ∧ k ≤ n ∧ N / 10 ^ k = 0
      · obtain ⟨K, hK, hle⟩ := ih h
        exact ⟨K, hK, by omega⟩
      · refine ⟨n + 1, ⟨by omega, ?_, fun j hj1 hj2 h0 => h ⟨j, hj1, by omega, h0⟩⟩, Nat.le_refl _⟩
        rcases Nat.lt_or_ge k (n + 1) with hk | hk
        · exact absurd ⟨k, h1, by omega, h3⟩ h
        · obtain rfl : k = n + 1 := by omega
          exact h3
  exact hex 39 ⟨39, by decide, Nat.le_refl _, h39⟩
/-- The digits stand at the end of the row, behind zeros. -/
def drow (N k : Nat) : List Nat := List.replicate (39 - k) 0 ++ dtail N k
theorem drow_set (N k p : Nat) (h : p + 1 + k = 39) : (drow N k).set p (48 + N / 10 ^ k % 10) = drow N (k + 1) := by
  unfold drow
  have e1 : 39 - k = p + 1 := by omega
  have e2 : 39 - (k + 1) = p := by omega
  rw [e1, e2, List.replicate_succ', List.append_assoc, List.set_append_right (h := by simp), List.length_replicate, Nat.sub_self]
  rfl
theorem drow_length (N k : Nat) (h : k ≤ 39) : (drow N k).length = 39 := by
  unfold drow
  rw [List.length_append, List.length_replicate, dtail_length]
  omega
theorem drow_get (N k p i : Nat) (h : p + k = 39) : (drow N k).getD (p + i) 0 = (dtail N k).getD i 0 := by
  unfold drow
  have e1 : 39 - k = p := by omega
  rw [e1, List.getD_eq_getElem?_getD, List.getElem?_append_right (by simp), List.length_replicate, Nat.add_sub_cancel_left, ← List.getD_eq_getElem?_getD]
theorem whi_zero : whi 0 = 0 := rfl
theorem wlo_zero : wlo 0 = 0 := rfl
theorem words_ne {M : Nat} (h : M ≠ 0) (hM : M < w128) : whi M ≠ 0 ∨ (whi M = 0 ∧ wlo M ≠ 0) := by
  unfold whi wlo w128 at *
  omega
theorem words_back {M : Nat} (hM : M < w128) : M = wnum (whi M) (wlo M) := by
  rw [wnum_words, Nat.mod_eq_of_lt hM]
end Go.Proofs.Ytemgnaalmgkfiaa
