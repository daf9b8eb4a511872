/-
  Plain arithmetic of numbers of two words. Nothing of the program.
-/
import Derived.Laws.BitsAllLaws
namespace Go.Proofs.Ytemgnaalmgkfiaa

/-- The words of a number, and the number of two words. -/
def whi (N : Nat) : Nat := N / 18446744073709551616 % 18446744073709551616
def wlo (N : Nat) : Nat := N % 18446744073709551616
def wnum (a b : Nat) : Nat := a * 18446744073709551616 + b
def w128 : Nat := 340282366920938463463374607431768211456
theorem w128_eq : w128 = 340282366920938463463374607431768211456 := rfl

theorem whi_le (N : Nat) : whi N ≤ 18446744073709551615 := by unfold whi; omega
theorem wlo_le (N : Nat) : wlo N ≤ 18446744073709551615 := by unfold wlo; omega
theorem wnum_words (N : Nat) : wnum (whi N) (wlo N) = N % w128 := by unfold wnum whi wlo w128; omega
theorem wnum_lt {a b : Nat} (ha : a ≤ 18446744073709551615) (hb : b ≤ 18446744073709551615) : wnum a b < w128 := by unfold wnum w128; omega
theorem whi_num {a b : Nat} (ha : a ≤ 18446744073709551615) (hb : b ≤ 18446744073709551615) : whi (wnum a b) = a := by unfold whi wnum; omega
theorem wlo_num {a b : Nat} (hb : b ≤ 18446744073709551615) : wlo (wnum a b) = b := by unfold wlo wnum; omega
theorem words_mod (N : Nat) : whi (N % w128) = whi N ∧ wlo (N % w128) = wlo N := by unfold whi wlo w128; omega
theorem wnum_zero (b : Nat) : wnum 0 b = b := by unfold wnum; omega

/-- Adding word by word, with a carry. -/
theorem add_words {a b c d : Nat} (ha : a ≤ 18446744073709551615) (hb : b ≤ 18446744073709551615) (hc : c ≤ 18446744073709551615) (hd : d ≤ 18446744073709551615) :
    (b + d + 0) % 18446744073709551616 = wlo (wnum a b + wnum c d) ∧ (b + d + 0) / 18446744073709551616 ≤ 1 ∧
      (a + c + (b + d + 0) / 18446744073709551616) % 18446744073709551616 = whi (wnum a b + wnum c d) ∧
      ((a + c + (b + d + 0) / 18446744073709551616) / 18446744073709551616 ≠ 0 ↔ w128 ≤ wnum a b + wnum c d) ∧ (a + c + (b + d + 0) / 18446744073709551616) / 18446744073709551616 ≤ 1 := by
  unfold whi wlo wnum w128
  omega
/-- Subtracting word by word, with a borrow. -/
theorem sub_words {a b c d : Nat} (ha : a ≤ 18446744073709551615) (hb : b ≤ 18446744073709551615) (hc : c ≤ 18446744073709551615) (hd : d ≤ 18446744073709551615) (k : Nat) (hk : k = if b < d + 0 then 1 else 0) :
    (b + 18446744073709551616 - d - 0) % 18446744073709551616 = wlo (wnum a b + w128 - wnum c d) ∧ k ≤ 1 ∧
      (a + 18446744073709551616 - c - k) % 18446744073709551616 = whi (wnum a b + w128 - wnum c d) ∧ ((if a < c + k then 1 else 0) ≠ 0 ↔ wnum a b < wnum c d) := by
  unfold whi wlo wnum w128
  split at hk <;> subst hk <;> refine ⟨by omega, by omega, by omega, ?_⟩ <;> split <;> omega
theorem less_words {a b c d : Nat} (hb : b ≤ 18446744073709551615) (hd : d ≤ 18446744073709551615) : (wnum a b < wnum c d) ↔ (a < c ∨ (a = c ∧ b < d)) := by
  unfold wnum; omega
end Go.Proofs.Ytemgnaalmgkfiaa
