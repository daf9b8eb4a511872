/-
  Plain arithmetic of a number's bits: sums, differences, quotients bit by bit. Nothing of the program.
-/
import Derived.Test.YtemgnaalmgkfiaaWPlain
namespace Go.Proofs.Ytemgnaalmgkfiaa
set_option linter.unusedVariables false

/-- Bit i. -/
def bit (N i : Nat) : Nat := N / 2 ^ i % 2
theorem bit_le (N i : Nat) : bit N i ≤ 1 := by unfold bit; omega
theorem pow_succ2 (i : Nat) : 2 ^ (i + 1) = 2 * 2 ^ i := by rw [Nat.pow_succ, Nat.mul_comm]
theorem mod_succ (N i : Nat) : N % 2 ^ (i + 1) = N % 2 ^ i + 2 ^ i * bit N i := by
  rw [Nat.pow_succ, Nat.mod_mul]
  rfl
theorem div_succ (N i : Nat) : N / 2 ^ (i + 1) = N / 2 ^ i / 2 := by rw [Nat.div_div_eq_div_mul, Nat.pow_succ]
theorem div_bit (N i : Nat) : N / 2 ^ i = 2 * (N / 2 ^ (i + 1)) + bit N i := by
  rw [div_succ]; unfold bit; omega

/-- The number that the first n bits make. -/
def lval (f : Nat → Nat) : Nat → Nat
  | 0 => 0
  | n + 1 => lval f n + 2 ^ n * f n
theorem lval_bit (N : Nat) : ∀ n, lval (bit N) n = N % 2 ^ n
  | 0 => by simp [lval, Nat.mod_one]
  | n + 1 => by rw [lval, lval_bit N n, mod_succ]
theorem lval_congr {f g : Nat → Nat} : ∀ n, (∀ i, i < n → f i = g i) → lval f n = lval g n
  | 0, _ => rfl
  | n + 1, h => by rw [lval, lval, lval_congr n (fun i hi => h i (by omega)), h n (by omega)]
/-- The number that the bits from k up to n make, k's the lowest. -/
def hval (f : Nat → Nat) (o n : Nat) : Nat → Nat := fun k => lval (fun i => f (o + k + i)) (n - k)
theorem lval_cons (f : Nat → Nat) : ∀ n, lval f (n + 1) = f 0 + 2 * lval (fun i => f (i + 1)) n
  | 0 => by simp [lval]
  | n + 1 => by
    rw [lval, lval_cons f n, lval, pow_succ2]
    rw [Nat.mul_add, Nat.mul_assoc]
    omega
theorem hval_step (f : Nat → Nat) (o n k : Nat) (hk : k < n) : hval f o n k = hval f o n (k + 1) * 2 + f (o + k) := by
  unfold hval
  have e : n - k = (n - (k + 1)) + 1 := by omega
  rw [e, lval_cons]
  have e2 : (fun i => f (o + k + (i + 1))) = (fun i => f (o + (k + 1) + i)) := by
    funext i
    congr 1
    omega
  rw [e2, Nat.add_zero]
  omega
theorem lval_lt (f : Nat → Nat) (h : ∀ i, f i ≤ 1) : ∀ n, lval f n < 2 ^ n
  | 0 => by simp [lval]
  | n + 1 => by
    have h1 := lval_lt f h n
    have h2 := h n
    rw [lval, pow_succ2]
    have h3 : 2 ^ n * f n ≤ 2 ^ n * 1 := Nat.mul_le_mul_left _ h2
    omega
theorem lval_add (f : Nat → Nat) (m : Nat) : ∀ n, lval f (m + n) = lval f m + 2 ^ m * lval (fun i => f (m + i)) n
  | 0 => by simp [lval]
  | n + 1 => by
    rw [← Nat.add_assoc, lval, lval_add f m n, lval, Nat.mul_add, Nat.pow_add, Nat.mul_assoc]
    omega
/-- 128 bits are two words of 64. -/
theorem lval_words (f : Nat → Nat) (h : ∀ i, f i ≤ 1) : whi (lval f 128) = hval f 64 64 0 ∧ wlo (lval f 128) = hval f 0 64 0 := by
  have e := lval_add f 64 64
  have h1 := lval_lt f h 64
  have h2 := lval_lt (fun i => f (64 + i)) (fun i => h _) 64
  have e1 : hval f 64 64 0 = lval (fun i => f (64 + i)) 64 := by unfold hval; rw [Nat.add_zero, Nat.sub_zero]
  have e2 : hval f 0 64 0 = lval f 64 := by
    unfold hval
    rw [Nat.sub_zero]
    exact lval_congr 64 fun i _ => by rw [Nat.add_zero, Nat.zero_add]
  rw [e1, e2, show (128 : Nat) = 64 + 64 from rfl, e]
  generalize lval (fun i => f (64 + i)) 64 = x at *
  generalize lval f 64 = y at *
  unfold whi wlo
  omega
theorem hval_lt (f : Nat → Nat) (h : ∀ i, f i ≤ 1) (o n k : Nat) : hval f o n k < 2 ^ (n - k) := lval_lt _ (fun i => h _) _

/-- The carry into place i. -/
def carryIn (A B i : Nat) : Nat := (A % 2 ^ i + B % 2 ^ i) / 2 ^ i
theorem carry_zero (A B : Nat) : carryIn A B 0 = 0 := by simp [carryIn, Nat.mod_one]
theorem carry_le (A B i : Nat) : carryIn A B i ≤ 1 := by
  unfold carryIn
  have h1 := Nat.mod_lt A (Nat.two_pow_pos i)
  have h2 := Nat.mod_lt B (Nat.two_pow_pos i)
  refine Nat.le_of_lt_succ ((Nat.div_lt_iff_lt_mul (Nat.two_pow_pos i)).2 ?_)
  omega
theorem carry_succ (A B i : Nat) : carryIn A B (i + 1) = (bit A i + bit B i + carryIn A B i) / 2 := by
  unfold carryIn
  rw [mod_succ, mod_succ, Nat.pow_succ, ← Nat.div_div_eq_div_mul]
  have e : A % 2 ^ i + 2 ^ i * bit A i + (B % 2 ^ i + 2 ^ i * bit B i) = (A % 2 ^ i + B % 2 ^ i) + 2 ^ i * (bit A i + bit B i) := by rw [Nat.mul_add]; omega
  rw [e, Nat.add_mul_div_left _ _ (Nat.two_pow_pos i)]
  congr 1
  omega
theorem sum_div (A B i : Nat) : (A + B) / 2 ^ i = A / 2 ^ i + B / 2 ^ i + carryIn A B i := by
  unfold carryIn
  have h1 := Nat.div_add_mod A (2 ^ i)
  have h2 := Nat.div_add_mod B (2 ^ i)
  have e : A + B = (A % 2 ^ i + B % 2 ^ i) + 2 ^ i * (A / 2 ^ i + B / 2 ^ i) := by rw [Nat.mul_add]; omega
  rw [e, Nat.add_mul_div_left _ _ (Nat.two_pow_pos i)]
  exact Nat.add_comm _ _
theorem sum_bit (A B i : Nat) : bit (A + B) i = (bit A i + bit B i + carryIn A B i) % 2 := by
  unfold bit
  rw [sum_div]
  omega
theorem carry_last {A B : Nat} (hA : A < w128) (hB : B < w128) : carryIn A B 128 = (A + B) / w128 := by
  unfold carryIn
  rw [show (2 : Nat) ^ 128 = w128 from rfl, Nat.mod_eq_of_lt hA, Nat.mod_eq_of_lt hB]

/-- The borrow into place i. -/
def borrowIn (A B i : Nat) : Nat := if A % 2 ^ i < B % 2 ^ i then 1 else 0
theorem borrow_zero (A B : Nat) : borrowIn A B 0 = 0 := by simp [borrowIn, Nat.mod_one]
theorem borrow_le (A B i : Nat) : borrowIn A B i ≤ 1 := by unfold borrowIn; split <;> omega
theorem borrow_succ (A B i : Nat) : borrowIn A B (i + 1) = if bit A i < bit B i + borrowIn A B i then 1 else 0 := by
  unfold borrowIn
  rw [mod_succ, mod_succ]
  have h1 := Nat.mod_lt A (Nat.two_pow_pos i)
  have h2 := Nat.mod_lt B (Nat.two_pow_pos i)
  have h3 := bit_le A i
  have h4 := bit_le B i
  generalize A % 2 ^ i = x at *
  generalize B % 2 ^ i = y at *
  generalize 2 ^ i = p at *
  have c1 : bit A i = 0 ∨ bit A i = 1 := by omega
  have c2 : bit B i = 0 ∨ bit B i = 1 := by omega
  rcases c1 with c1 | c1 <;> rcases c2 with c2 | c2 <;> rw [c1, c2] <;> simp only [Nat.mul_zero, Nat.mul_one] <;> (repeat' split) <;> omega
theorem diff_div {A B i : Nat} (hi : i ≤ 128) (hB : B < w128) : (A + w128 - B) / 2 ^ i + B / 2 ^ i + borrowIn A B i = A / 2 ^ i + 2 ^ (128 - i) := by
  have h1 := Nat.div_add_mod A (2 ^ i)
  have h2 := Nat.div_add_mod B (2 ^ i)
  have h3 := Nat.mod_lt A (Nat.two_pow_pos i)
  have h4 := Nat.mod_lt B (Nat.two_pow_pos i)
  have e : w128 = 2 ^ i * 2 ^ (128 - i) := by rw [← Nat.pow_add, show i + (128 - i) = 128 from by omega]; rfl
  have hle : B / 2 ^ i < 2 ^ (128 - i) := (Nat.div_lt_iff_lt_mul (Nat.two_pow_pos i)).2 (by rw [Nat.mul_comm, ← e]; exact hB)
  unfold borrowIn
  rw [e] at hB ⊢
  generalize A % 2 ^ i = x at *
  generalize B % 2 ^ i = y at *
  generalize A / 2 ^ i = a at *
  generalize B / 2 ^ i = b at *
  generalize 2 ^ (128 - i) = q at *
  generalize hp : 2 ^ i = p at *
  have hp0 : 0 < p := by omega
  obtain ⟨d, hd⟩ : ∃ d, a + q = b + 1 + d := ⟨a + q - b - 1, by omega⟩
  have e3 : p * a + p * q = p * b + p + p * d := by rw [← Nat.mul_add, hd, Nat.mul_add, Nat.mul_add, Nat.mul_one]
  split
  · have e2 : A + p * q - B = (x + p - y) + p * d := by omega
    rw [e2, Nat.add_mul_div_left _ _ hp0, Nat.div_eq_of_lt (by omega)]
    omega
  · have e2 : A + p * q - B = (x - y) + p * (d + 1) := by rw [Nat.mul_add, Nat.mul_one]; omega
    rw [e2, Nat.add_mul_div_left _ _ hp0, Nat.div_eq_of_lt (by omega)]
    omega
theorem diff_bit {A B i : Nat} (hi : i < 128) (hB : B < w128) : bit (A + w128 - B) i = (bit A i + bit B i + borrowIn A B i) % 2 := by
  have h := diff_div (A := A) (i := i) (by omega) hB
  have e : 2 ^ (128 - i) = 2 * 2 ^ (127 - i) := by rw [← pow_succ2]; congr 1; omega
  rw [e] at h
  unfold bit
  omega
theorem borrow_last {A B : Nat} (hA : A < w128) (hB : B < w128) : borrowIn A B 128 = if A < B then 1 else 0 := by
  unfold borrowIn
  rw [show (2 : Nat) ^ 128 = w128 from rfl, Nat.mod_eq_of_lt hA, Nat.mod_eq_of_lt hB]

/-- Comparing from the highest bit. -/
theorem less_here {A B i : Nat} (h : A / 2 ^ (i + 1) = B / 2 ^ (i + 1)) (hne : bit A i ≠ bit B i) : A < B ↔ bit A i < bit B i := by
  have h1 := div_bit A i
  have h2 := div_bit B i
  have h3 := bit_le A i
  have h4 := bit_le B i
  rw [h] at h1
  constructor
  · intro hlt
    have := Nat.div_le_div_right (c := 2 ^ i) (Nat.le_of_lt hlt)
    omega
  · intro hlt
    rcases Nat.lt_or_ge A B with h5 | h5
    · exact h5
    · have := Nat.div_le_div_right (c := 2 ^ i) h5
      omega
theorem less_down {A B i : Nat} (h : A / 2 ^ (i + 1) = B / 2 ^ (i + 1)) (he : bit A i = bit B i) : A / 2 ^ i = B / 2 ^ i := by
  rw [div_bit A i, div_bit B i, h, he]
theorem bit_word_lo {a b i : Nat} (hb : b ≤ 18446744073709551615) (hi : i < 64) : bit (wnum a b) i = b / 2 ^ i % 2 := by
  unfold bit wnum
  have e : a * 18446744073709551616 = 2 ^ i * (2 * (2 ^ (63 - i) * a)) := by
    rw [← Nat.mul_assoc, ← Nat.mul_assoc, Nat.mul_comm (2 ^ i) 2, ← pow_succ2, ← Nat.pow_add, show i + 1 + (63 - i) = 64 from by omega, Nat.mul_comm]
  rw [e, Nat.add_comm, Nat.add_mul_div_left _ _ (Nat.two_pow_pos i)]
  omega
theorem bit_word_hi {a b i : Nat} (hb : b ≤ 18446744073709551615) : bit (wnum a b) (64 + i) = a / 2 ^ i % 2 := by
  unfold bit wnum
  rw [Nat.pow_add, ← Nat.div_div_eq_div_mul]
  congr 2
  omega
end Go.Proofs.Ytemgnaalmgkfiaa
