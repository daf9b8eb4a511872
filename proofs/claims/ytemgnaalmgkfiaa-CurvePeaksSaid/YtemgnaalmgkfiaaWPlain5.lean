/-
  Plain arithmetic of dividing bit by bit. Nothing of the program.
-/
import Derived.Test.YtemgnaalmgkfiaaWPlain4
namespace Go.Proofs.Ytemgnaalmgkfiaa

/-- The rest so far: of the bits from k up. -/
def restAt (N n k : Nat) : Nat := N / 2 ^ k % n
theorem rest_lt {N n k : Nat} (h : 0 < n) : restAt N n k < n := Nat.mod_lt _ h
theorem div_swap (N n k : Nat) : N / n / 2 ^ k = N / 2 ^ k / n := by rw [Nat.div_div_eq_div_mul, Nat.div_div_eq_div_mul, Nat.mul_comm]
/-- One step down: the rest doubled and the next bit, and what the divisor leaves of it. -/
theorem rest_step {N n p : Nat} (h : 0 < n) :
    (2 * restAt N n (p + 1) + bit N p < n → restAt N n p = 2 * restAt N n (p + 1) + bit N p ∧ bit (N / n) p = 0) ∧
      (n ≤ 2 * restAt N n (p + 1) + bit N p → restAt N n p = 2 * restAt N n (p + 1) + bit N p - n ∧ bit (N / n) p = 1) := by
  have e := div_bit N p
  have hb := bit_le N p
  have hr := rest_lt (N := N) (k := p + 1) h
  have d := Nat.div_add_mod (N / 2 ^ (p + 1)) n
  have q : bit (N / n) p = N / 2 ^ p / n % 2 := by unfold bit; rw [div_swap]
  unfold restAt at *
  rw [q]
  generalize N / 2 ^ (p + 1) = M at *
  generalize bit N p = v at *
  generalize M % n = r at *
  generalize hm : M / n = m at *
  have e2 : N / 2 ^ p = n * (2 * m) + (2 * r + v) := by
    rw [e, ← d, Nat.mul_add, Nat.mul_left_comm]
    omega
  rw [e2]
  constructor
  · intro hlt
    rw [Nat.mul_add_mod, Nat.mod_eq_of_lt hlt, Nat.mul_add_div h, Nat.div_eq_of_lt hlt]
    omega
  · intro hge
    have e3 : n * (2 * m) + (2 * r + v) = n * (2 * m + 1) + (2 * r + v - n) := by rw [Nat.mul_add, Nat.mul_one]; omega
    rw [e3, Nat.mul_add_mod, Nat.mod_eq_of_lt (by omega), Nat.mul_add_div h, Nat.div_eq_of_lt (by omega)]
    omega
/-- The quotient's bits from k up. -/
def quotRow (Q k : Nat) : Nat → Nat := fun j => if k ≤ j then bit Q j else 0
theorem quotRow_le (Q k j : Nat) : quotRow Q k j ≤ 1 := by unfold quotRow; split; exact bit_le _ _; omega
theorem quotRow_same {Q p : Nat} (h : bit Q p = 0) : ∀ j, j < 128 → quotRow Q (p + 1) j = quotRow Q p j := by
  intro j _
  unfold quotRow
  by_cases h1 : p + 1 ≤ j
  · rw [if_pos h1, if_pos (by omega)]
  · rw [if_neg h1]
    by_cases h2 : p ≤ j
    · obtain rfl : j = p := by omega
      rw [if_pos h2, h]
    · rw [if_neg h2]
end Go.Proofs.Ytemgnaalmgkfiaa
