/-
  Plain arithmetic: a field that is put is read back, all other bits stay. Nothing of the program.
-/
import Derived.Test.YtbnheffeojnjdaaPlain2
import Derived.Test.YtbnheffeojnjdaaPlain3
namespace Go.Proofs.Ytbnheffeojnjdaa

theorem setb_read (n f c x : Nat) (h : f + c ≤ 64) : setb n f c x / 2 ^ f % 2 ^ c = x % 2 ^ c := by
  apply Nat.eq_of_testBit_eq
  intro j
  rw [Nat.testBit_mod_two_pow, Nat.testBit_mod_two_pow, Nat.testBit_div_two_pow]
  by_cases hj : j < c
  · have e := setb_bit n f c x (j + f) h (by omega)
    rw [if_pos ⟨by omega, by omega⟩, show j + f - f = j from by omega] at e
    simp [hj, e]
  · simp [hj]
theorem setb_low (n f c x : Nat) (h : f + c ≤ 64) : setb n f c x % 2 ^ f = n % 2 ^ f := by
  apply Nat.eq_of_testBit_eq
  intro j
  rw [Nat.testBit_mod_two_pow, Nat.testBit_mod_two_pow]
  by_cases hj : j < f
  · have e := setb_bit n f c x j h (by omega)
    rw [if_neg (by omega)] at e
    simp [hj, e]
  · simp [hj]
theorem setb_back (n f c x : Nat) (h : f + c ≤ 64) (hn : n < 18446744073709551616) : setb (setb n f c x) f c (n / 2 ^ f % 2 ^ c) = n := by
  apply Nat.eq_of_testBit_eq
  intro j
  have e64 : (18446744073709551616 : Nat) = 2 ^ 64 := by decide
  by_cases hj : j < 64
  · rw [setb_bit _ f c _ j h hj]
    by_cases h1 : f ≤ j ∧ j < f + c
    · rw [if_pos h1, Nat.testBit_mod_two_pow, Nat.testBit_div_two_pow]
      have h2 : j - f < c := by omega
      rw [show j - f + f = j from by omega]
      simp [h2]
    · rw [if_neg h1, setb_bit n f c x j h hj, if_neg h1]
  · have h1 : setb (setb n f c x) f c (n / 2 ^ f % 2 ^ c) < 2 ^ 64 := by rw [← e64]; exact setb_lt _ f c _ h
    rw [Nat.testBit_lt_two_pow (Nat.lt_of_lt_of_le h1 (Nat.pow_le_pow_right (by omega) (by omega))), Nat.testBit_lt_two_pow (Nat.lt_of_lt_of_le (by rw [← e64]; exact hn) (Nat.pow_le_pow_right (by omega) (by omega)))]
theorem splice_mid {bs l : List Nat} {a : Nat} (h : a + l.length ≤ bs.length) : ((bs.take a ++ (l ++ bs.drop (a + l.length))).drop a).take l.length = l := by
  have e1 : (bs.take a).length = a := by rw [List.length_take]; omega
  rw [List.drop_append_of_le_length (by omega), List.drop_of_length_le (by omega), List.nil_append, List.take_append_of_le_length (Nat.le_refl _), List.take_of_length_le (Nat.le_refl _)]
theorem splice_out {bs l : List Nat} {a i : Nat} (h : a + l.length ≤ bs.length) (hi : i < a ∨ a + l.length ≤ i) : (bs.take a ++ (l ++ bs.drop (a + l.length))).getD i 0 = bs.getD i 0 := by
  have e1 : (bs.take a).length = a := by rw [List.length_take]; omega
  rw [List.getD_eq_getElem?_getD, List.getD_eq_getElem?_getD]
  rcases hi with hi | hi
  · rw [List.getElem?_append_left (by omega), List.getElem?_take, if_pos hi]
  · rw [List.getElem?_append_right (by omega), e1, List.getElem?_append_right (by omega), List.getElem?_drop]
    rw [show a + l.length + (i - a - l.length) = i from by omega]
end Go.Proofs.Ytbnheffeojnjdaa
