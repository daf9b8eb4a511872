/-
  Plain arithmetic of long division by one word. Nothing of the program.
-/
import Derived.Test.YtemgnaalmgkfiaaWPlain
import Derived.Lib.BitFns
namespace Go.Proofs.Ytemgnaalmgkfiaa

theorem bitLen_bounds : ∀ (n x : Nat), x ≤ n → 0 < x → x < 2 ^ 64 → 1 ≤ Lib.bitLen x ∧ 2 ^ (Lib.bitLen x - 1) ≤ x ∧ x < 2 ^ Lib.bitLen x := by
  intro n
  induction n with
  | zero => intro x h1 h2 _; omega
  | succ n ih =>
    intro x hx h0 hlt
    rw [Lib.bitLen_half x (by omega) hlt]
    by_cases h1 : x = 1
    · subst h1
      decide
    · obtain ⟨i1, i2, i3⟩ := ih (x / 2) (by omega) (by omega) (by omega)
      obtain ⟨b, hb⟩ : ∃ b, Lib.bitLen (x / 2) = b + 1 := ⟨Lib.bitLen (x / 2) - 1, by omega⟩
      rw [hb] at i2 i3 ⊢
      have e1 : 1 + (b + 1) - 1 = b + 1 := by omega
      have e2 : 1 + (b + 1) = b + 1 + 1 := by omega
      have e3 : b + 1 - 1 = b := by omega
      rw [e3] at i2
      rw [e1, e2, Nat.pow_succ 2 (b + 1)]
      rw [Nat.pow_succ] at i3 ⊢
      omega

/-- The shift that brings a divisor's highest bit to the word's. -/
theorem norm_shift (y : Nat) (h0 : 0 < y) (h : y ≤ 18446744073709551615) :
    ∃ s, s ≤ 63 ∧ Lib.bitLen y = 64 - s ∧ 9223372036854775808 ≤ y * 2 ^ s ∧ y * 2 ^ s ≤ 18446744073709551615 := by
  obtain ⟨h1, h2, h3⟩ := bitLen_bounds y y (Nat.le_refl _) h0 (by omega)
  have hle := Lib.bitLen_le y 64 (by omega) (by omega)
  refine ⟨64 - Lib.bitLen y, by omega, by omega, ?_, ?_⟩
  · have : (2 : Nat) ^ (Lib.bitLen y - 1) * 2 ^ (64 - Lib.bitLen y) = 9223372036854775808 := by
      rw [← Nat.pow_add, show Lib.bitLen y - 1 + (64 - Lib.bitLen y) = 63 from by omega]
    have h4 := Nat.mul_le_mul_right (2 ^ (64 - Lib.bitLen y)) h2
    omega
  · have : (2 : Nat) ^ (Lib.bitLen y) * 2 ^ (64 - Lib.bitLen y) = 18446744073709551616 := by
      rw [← Nat.pow_add, show Lib.bitLen y + (64 - Lib.bitLen y) = 64 from by omega]
    have h4 := (Nat.mul_lt_mul_right (Nat.two_pow_pos (64 - Lib.bitLen y))).2 h3
    omega

/-- What stands while a digit of the quotient is looked for: u·2^32 + d is divided by a·2^32 + b; q is at least the digit, r is what q·a leaves of u. -/
structure Guess (u d a b q r : Nat) : Prop where
  rest : q * a + r = u
  digit : (u * 4294967296 + d) / (a * 4294967296 + b) ≤ q
  top : 2147483648 ≤ a
  topLt : a < 4294967296
  lowLt : b < 4294967296
  nextLt : d < 4294967296
  less : u < a * 4294967296 + b

theorem Guess.start {u d a b : Nat} (h1 : 2147483648 ≤ a) (h2 : a < 4294967296) (h3 : b < 4294967296) (h4 : d < 4294967296) (h5 : u < a * 4294967296 + b) : Guess u d a b (u / a) (u - u / a * a) := by
  have h6 : u / a * a ≤ u := Nat.div_mul_le_self u a
  refine ⟨by omega, ?_, h1, h2, h3, h4, h5⟩
  refine Nat.le_of_lt_succ ((Nat.div_lt_iff_lt_mul (by omega)).2 ?_)
  have h7 : u < (u / a + 1) * a := by
    have := Nat.lt_div_mul_add (a := u) (b := a) (by omega)
    rw [Nat.add_mul]; omega
  have h8 : (u + 1) * 4294967296 ≤ (u / a + 1) * a * 4294967296 := Nat.mul_le_mul_right _ h7
  have h9 : (u / a + 1) * (a * 4294967296 + b) = (u / a + 1) * a * 4294967296 + (u / a + 1) * b := by rw [Nat.mul_add, Nat.mul_assoc]
  show u * 4294967296 + d < (u / a + 1) * (a * 4294967296 + b)
  omega
theorem Guess.digit_lt {u d a b q r : Nat} (h : Guess u d a b q r) : (u * 4294967296 + d) / (a * 4294967296 + b) < 4294967296 := by
  have h1 := h.less
  have h2 := h.nextLt
  have h3 := h.top
  refine (Nat.div_lt_iff_lt_mul (by omega)).2 ?_
  omega
theorem Guess.q_le {u d a b q r : Nat} (h : Guess u d a b q r) : q ≤ 8589934592 := by
  have h1 := h.rest
  have h2 := h.top
  have h3 := h.less
  have h4 := h.topLt
  have h5 := h.lowLt
  rcases Nat.lt_or_ge 8589934592 q with hq | hq
  · have := Nat.mul_le_mul (Nat.succ_le_of_lt hq) h2
    omega
  · exact hq
theorem Guess.too_big {u d a b q r : Nat} (h : Guess u d a b q r) (hc : 4294967296 ≤ q ∨ 4294967296 * r + d < q * b) : (u * 4294967296 + d) / (a * 4294967296 + b) < q := by
  have h0 := h.digit_lt
  rcases hc with hc | hc
  · omega
  · refine (Nat.div_lt_iff_lt_mul (by have := h.top; omega)).2 ?_
    have h1 := h.rest
    have h9 : q * (a * 4294967296 + b) = q * a * 4294967296 + q * b := by rw [Nat.mul_add, Nat.mul_assoc]
    omega
theorem Guess.more {u d a b q r : Nat} (h : Guess u d a b q r) (hc : 4294967296 ≤ q ∨ 4294967296 * r + d < q * b) : 1 ≤ q ∧ Guess u d a b (q - 1) (r + a) := by
  have h1 := h.too_big hc
  have h2 : 1 ≤ q := Nat.lt_of_le_of_lt (Nat.zero_le _) h1
  refine ⟨h2, ?_, Nat.le_sub_one_of_lt h1, h.top, h.topLt, h.lowLt, h.nextLt, h.less⟩
  have h3 := h.rest
  have h4 : q * a = (q - 1) * a + a := by
    have e : q = (q - 1) + 1 := by omega
    calc q * a = ((q - 1) + 1) * a := by rw [← e]
      _ = _ := by rw [Nat.add_mul, Nat.one_mul]
  omega
theorem Guess.fits {u d a b q r : Nat} (h : Guess u d a b q r) (h2 : q * b ≤ 4294967296 * r + d) : q = (u * 4294967296 + d) / (a * 4294967296 + b) := by
  refine Nat.le_antisymm ?_ h.digit
  refine (Nat.le_div_iff_mul_le (by have := h.top; omega)).2 ?_
  have h3 := h.rest
  have h9 : q * (a * 4294967296 + b) = q * a * 4294967296 + q * b := by rw [Nat.mul_add, Nat.mul_assoc]
  omega
theorem Guess.out {u d a b q r : Nat} (h : Guess u d a b q r) (hr : 4294967296 ≤ r) : q = (u * 4294967296 + d) / (a * 4294967296 + b) := by
  have h3 := h.rest
  have h4 := h.less
  have h5 := h.lowLt
  have hq : q < 4294967296 := by
    rcases Nat.lt_or_ge q 4294967296 with hq | hq
    · exact hq
    · have := Nat.mul_le_mul_right a hq
      omega
  refine Nat.le_antisymm ?_ h.digit
  refine (Nat.le_div_iff_mul_le (by have := h.top; omega)).2 ?_
  have h9 : q * (a * 4294967296 + b) = q * a * 4294967296 + q * b := by rw [Nat.mul_add, Nat.mul_assoc]
  have h10 : q * b ≤ 4294967295 * 4294967295 := Nat.mul_le_mul (by omega) (by omega)
  omega

/-- The whole: the two digits, and the rest shifted back. -/
theorem two_digits {N y s Y u un1 un0 q1 m q0 : Nat} (hY : Y = y * 2 ^ s) (h0 : 0 < y) (hU : (u * 4294967296 + un1) * 4294967296 + un0 = N * 2 ^ s)
    (e1 : q1 = (u * 4294967296 + un1) / Y) (em : m = (u * 4294967296 + un1) % Y) (e0 : q0 = (m * 4294967296 + un0) / Y) :
    q1 * 4294967296 + q0 = N / y ∧ (m * 4294967296 + un0) % Y / 2 ^ s = N % y := by
  have hYp : 0 < Y := by rw [hY]; exact Nat.mul_pos h0 (Nat.two_pow_pos s)
  have d1 := Nat.div_add_mod (u * 4294967296 + un1) Y
  have d0 := Nat.div_add_mod (m * 4294967296 + un0) Y
  have lt := Nat.mod_lt (m * 4294967296 + un0) hYp
  rw [← e1, ← em] at d1
  rw [← e0] at d0
  obtain ⟨r, hr0⟩ : ∃ r, r = (m * 4294967296 + un0) % Y := ⟨_, rfl⟩
  rw [← hr0] at d0 lt ⊢
  have hmain : N * 2 ^ s = Y * (q1 * 4294967296 + q0) + r := by
    have a1 : Y * (q1 * 4294967296 + q0) = Y * q1 * 4294967296 + Y * q0 := by rw [Nat.mul_add, Nat.mul_assoc]
    omega
  have hq : q1 * 4294967296 + q0 = N * 2 ^ s / Y := by
    rw [hmain, Nat.mul_add_div hYp, Nat.div_eq_of_lt lt, Nat.add_zero]
  have hr : r = N * 2 ^ s % Y := by rw [hmain, Nat.mul_add_mod, Nat.mod_eq_of_lt lt]
  rw [hq, hr, hY]
  exact ⟨Nat.mul_div_mul_right _ _ (Nat.two_pow_pos s), by rw [Nat.mul_mod_mul_right, Nat.mul_div_cancel _ (Nat.two_pow_pos s)]⟩
end Go.Proofs.Ytemgnaalmgkfiaa
