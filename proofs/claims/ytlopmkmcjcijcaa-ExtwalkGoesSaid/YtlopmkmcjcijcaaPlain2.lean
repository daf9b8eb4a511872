/-
  Plain arithmetic of bits: ones, a field of bits, a field put in. Nothing of the program.
-/
import Derived.Laws.BitsAllLaws
import Derived.Laws.Shifts
namespace Go.Proofs.Ytlopmkmcjcijcaa

theorem pow_le_64 {c : Nat} (h : c ≤ 64) : 2 ^ c ≤ 18446744073709551616 := by
  have h1 : 2 ^ c ≤ 2 ^ 64 := Nat.pow_le_pow_right (by omega) h
  have h2 : (2 : Nat) ^ 64 = 18446744073709551616 := by decide
  omega

theorem ones_eq (c : Nat) (h : c ≤ 64) : IntKind.u64.wrap (IntKind.u64.wrap (2 ^ c) - 1) = ((2 ^ c - 1 : Nat) : Int) := by
  have h1 := pow_le_64 h
  have h2 : 0 < 2 ^ c := Nat.two_pow_pos c
  have h3 : ((2 : Int) ^ c) = ((2 ^ c : Nat) : Int) := by simp
  rw [h3]
  generalize 2 ^ c = p at *
  rw [IntKind.wrap_u64, IntKind.wrap_u64]
  omega

/-- A field of bits. -/
theorem and_ones (q c : Nat) (hq : q ≤ 18446744073709551615) (h : c ≤ 64) : bits .and .u64 (q : Int) ((2 ^ c - 1 : Nat) : Int) = ((q % 2 ^ c : Nat) : Int) := by
  have h1 := pow_le_64 h
  rw [u64_and_nat q (2 ^ c - 1) (by omega) (by have := Nat.two_pow_pos c; omega), Nat.and_two_pow_sub_one_eq_mod]

/-- A field put in: its bits are x's, all others n's. -/
def setb (n f c x : Nat) : Nat := (n &&& (18446744073709551615 - (2 ^ c - 1) * 2 ^ f)) ||| ((x * 2 ^ f % 18446744073709551616) &&& ((2 ^ c - 1) * 2 ^ f))

theorem mask_bit (f c j : Nat) : ((2 ^ c - 1) * 2 ^ f).testBit j = (decide (f ≤ j) && decide (j < f + c)) := by
  rw [Nat.testBit_mul_two_pow, Nat.testBit_two_pow_sub_one]
  by_cases h : f ≤ j
  · simp [h]; omega
  · simp [h]
theorem mask_lt (f c : Nat) (h : f + c ≤ 64) : (2 ^ c - 1) * 2 ^ f < 18446744073709551616 := by
  have h1 : 2 ^ c * 2 ^ f ≤ 18446744073709551616 := by rw [← Nat.pow_add]; exact pow_le_64 (by omega)
  have h2 := Nat.two_pow_pos c
  have h3 := Nat.two_pow_pos f
  have h4 : (2 ^ c - 1) * 2 ^ f < 2 ^ c * 2 ^ f := Nat.mul_lt_mul_of_pos_right (by omega) h3
  omega
theorem notmask_bit (f c j : Nat) (h : f + c ≤ 64) (hj : j < 64) : (18446744073709551615 - (2 ^ c - 1) * 2 ^ f).testBit j = !(decide (f ≤ j) && decide (j < f + c)) := by
  have h1 := mask_lt f c h
  have e : 18446744073709551615 - (2 ^ c - 1) * 2 ^ f = 2 ^ 64 - ((2 ^ c - 1) * 2 ^ f + 1) := by
    have : (2 : Nat) ^ 64 = 18446744073709551616 := by decide
    omega
  rw [e, Nat.testBit_two_pow_sub_succ (by have : (2 : Nat) ^ 64 = 18446744073709551616 := by decide
                                          omega), mask_bit]
  simp [hj]
theorem setb_lt (n f c x : Nat) (h : f + c ≤ 64) : setb n f c x < 18446744073709551616 := by
  have h1 := mask_lt f c h
  have e : (2 : Nat) ^ 64 = 18446744073709551616 := by decide
  unfold setb
  rw [← e]
  refine Nat.or_lt_two_pow (Nat.and_lt_two_pow _ (by omega)) (Nat.and_lt_two_pow _ (by omega))
theorem setb_bit (n f c x j : Nat) (h : f + c ≤ 64) (hj : j < 64) : (setb n f c x).testBit j = if f ≤ j ∧ j < f + c then x.testBit (j - f) else n.testBit j := by
  unfold setb
  have e : (18446744073709551616 : Nat) = 2 ^ 64 := by decide
  rw [Nat.testBit_or, Nat.testBit_and, Nat.testBit_and, notmask_bit f c j h hj, mask_bit, e, Nat.testBit_mod_two_pow, Nat.testBit_mul_two_pow]
  by_cases h1 : f ≤ j
  · by_cases h2 : j < f + c
    · simp [h1, h2, hj]
    · simp [h1, h2]
  · simp [h1]
/-- The code's own text comes to it. -/
theorem setb_code (n f c x : Nat) (hn : n ≤ 18446744073709551615) (h : f + c ≤ 64) :
    bits .or .u64 (bits .andNot .u64 (n : Int) (IntKind.u64.wrap (((2 ^ c - 1 : Nat) : Int) * 2 ^ f))) (bits .and .u64 (IntKind.u64.wrap ((x : Int) * 2 ^ f)) (IntKind.u64.wrap (((2 ^ c - 1 : Nat) : Int) * 2 ^ f))) = ((setb n f c x : Nat) : Int) := by
  have h1 := mask_lt f c h
  have e1 : IntKind.u64.wrap (((2 ^ c - 1 : Nat) : Int) * 2 ^ f) = (((2 ^ c - 1) * 2 ^ f : Nat) : Int) := by
    rw [IntKind.wrap_u64]
    have : (((2 ^ c - 1 : Nat) : Int) * 2 ^ f) = (((2 ^ c - 1) * 2 ^ f : Nat) : Int) := by simp
    rw [this]
    omega
  have e2 : IntKind.u64.wrap ((x : Int) * 2 ^ f) = ((x * 2 ^ f % 18446744073709551616 : Nat) : Int) := by
    rw [IntKind.wrap_u64]
    have : ((x : Int) * 2 ^ f) = ((x * 2 ^ f : Nat) : Int) := by simp
    rw [this]
    omega
  rw [e1, e2, u64_andNot_nat _ _ (by omega) h1, u64_and_nat _ _ (by omega) h1]
  have e : (2 : Nat) ^ 64 = 18446744073709551616 := by decide
  rw [u64_or_nat]
  · rfl
  · rw [← e]; exact Nat.and_lt_two_pow _ (by omega)
  · rw [← e]; exact Nat.and_lt_two_pow _ (by omega)

theorem mod_pow_succ (q k : Nat) : q % 2 ^ (k + 1) = q / 2 % 2 ^ k * 2 + q % 2 := by
  rw [Nat.pow_succ, Nat.mul_comm (2 ^ k) 2, Nat.mod_mul]
  omega
theorem bit_step (n f c i : Nat) (h : i + 1 ≤ c) : n / 2 ^ (f + i) % 2 ^ (c - i) = n / 2 ^ (f + (i + 1)) % 2 ^ (c - (i + 1)) * 2 + n / 2 ^ (f + i) % 2 := by
  have e : c - i = c - (i + 1) + 1 := by omega
  rw [e, mod_pow_succ, Nat.div_div_eq_div_mul, ← Nat.pow_succ]
  rfl
theorem shr_step (S i : Nat) : S / 2 ^ i = S / 2 ^ (i + 1) * 2 + S / 2 ^ i % 2 := by
  rw [Nat.pow_succ, ← Nat.div_div_eq_div_mul]
  omega
theorem bit_of_testBit (n i : Nat) : n / 2 ^ i % 2 = if n.testBit i then 1 else 0 := by
  rw [Nat.testBit_eq_decide_div_mod_eq]
  by_cases h : n / 2 ^ i % 2 = 1
  · simp [h]
  · simp [h]; omega
theorem setb_step_in (n f c x i : Nat) (h : f + c ≤ 64) (hi : i < 64) (h1 : f ≤ i) (h2 : i < f + c) : setb n f c x / 2 ^ i % 2 = x / 2 ^ (i - f) % 2 := by
  have e := setb_bit n f c x i h hi
  rw [if_pos ⟨h1, h2⟩] at e
  rw [bit_of_testBit, bit_of_testBit, e]
theorem setb_step_out (n f c x i : Nat) (h : f + c ≤ 64) (hi : i < 64) (h1 : ¬ (f ≤ i ∧ i < f + c)) : setb n f c x / 2 ^ i % 2 = n / 2 ^ i % 2 := by
  have e := setb_bit n f c x i h hi
  rw [if_neg h1] at e
  rw [bit_of_testBit, bit_of_testBit, e]
end Go.Proofs.Ytlopmkmcjcijcaa
