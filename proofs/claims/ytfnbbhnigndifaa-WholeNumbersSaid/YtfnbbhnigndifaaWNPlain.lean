/-
  Sixteen bytes as a number: what is carried from the last byte on. Plain facts, nothing of the program.
-/
import Derived.Test.YtfnbbhnigndifaaPlain3
import Derived.Test.YtfnbbhnigndifaaWPlain
namespace Go.Proofs.Ytfnbbhnigndifaa

/-- The number of the last k of sixteen bytes. -/
def sfx (l : List Nat) (k : Nat) : Nat := be (l.drop (16 - k))
theorem sfx_zero {l : List Nat} (h : l.length = 16) : sfx l 0 = 0 := by
  unfold sfx
  rw [List.drop_eq_nil_of_le (by omega)]
  rfl
theorem sfx_succ {l : List Nat} (h : l.length = 16) {k : Nat} (hk : k < 16) : sfx l (k + 1) = l.getD (15 - k) 0 * 256 ^ k + sfx l k := by
  unfold sfx
  have e : l.drop (16 - (k + 1)) = l.getD (15 - k) 0 :: l.drop (16 - k) := by
    rw [show 16 - (k + 1) = 15 - k from by omega, List.drop_eq_getElem_cons (by omega), List.getD_eq_getElem?_getD, List.getElem?_eq_getElem (by omega), show 15 - k + 1 = 16 - k from by omega]
    rfl
  rw [e, be_cons, List.length_drop, h, show 16 - (16 - k) = k from by omega]
theorem sfx_lt {l : List Nat} (h : l.length = 16) (hb : ∀ x ∈ l, x < 256) {k : Nat} (hk : k ≤ 16) : sfx l k < 256 ^ k := by
  have := be_lt (l.drop (16 - k)) (mem_drop hb)
  rw [List.length_drop, h, show 16 - (16 - k) = k from by omega] at this
  exact this
theorem sfx_mod {l : List Nat} (h : l.length = 16) (hb : ∀ x ∈ l, x < 256) {j m : Nat} (hj : j ≤ m) (hm : m ≤ 16) : sfx l m % 256 ^ j = sfx l j := by
  induction m with
  | zero =>
    obtain rfl : j = 0 := by omega
    rw [sfx_zero h, Nat.zero_mod]
  | succ m ih =>
    by_cases hjm : j = m + 1
    · subst hjm
      exact Nat.mod_eq_of_lt (sfx_lt h hb hm)
    · rw [sfx_succ h (by omega), show 256 ^ m = 256 ^ (m - j) * 256 ^ j from by rw [← Nat.pow_add, Nat.sub_add_cancel (by omega)], ← Nat.mul_assoc, Nat.add_comm, Nat.add_mul_mod_self_right]
      exact ih (by omega) (by omega)

/-- Digits below do not change. -/
theorem pb_low (a n k : Nat) : pb (a * 256 ^ k + n) k = pb n k := by
  unfold pb
  apply List.map_congr_left
  intro i hi
  rw [List.mem_range] at hi
  rw [show 256 ^ k = 256 ^ (i + 1) * 256 ^ (k - 1 - i) from by rw [← Nat.pow_add]; congr 1; omega, ← Nat.mul_assoc, Nat.add_comm, Nat.add_mul_div_right _ _ (Nat.pow_pos (by decide)), Nat.pow_succ, ← Nat.mul_assoc, Nat.add_mul_mod_self_right]
theorem digit_add (a n k : Nat) : (a * 256 ^ k + n) / 256 ^ k = a + n / 256 ^ k := by
  rw [Nat.add_comm, Nat.add_mul_div_right _ _ (Nat.pow_pos (by decide)), Nat.add_comm]
/-- The last k bytes of a sum, as they are laid. -/
theorem pb_step (a n k : Nat) : pb (a * 256 ^ k + n) (k + 1) = (a + n / 256 ^ k) % 256 :: pb n k := by
  rw [pb_succ, digit_add, pb_low]
theorem carry_step (a n k : Nat) : (a * 256 ^ k + n) / 256 ^ (k + 1) = (a + n / 256 ^ k) / 256 := by
  rw [Nat.pow_succ, ← Nat.div_div_eq_div_mul, digit_add]
/-- The row while it is laid. -/
def zrow (S k : Nat) : List Nat := List.replicate (16 - k) 0 ++ pb S k
theorem zrow_zero (S : Nat) : zrow S 0 = List.replicate 16 0 := by simp [zrow, pb]
theorem zrow_len (S k : Nat) (hk : k ≤ 16) : (zrow S k).length = 16 := by simp [zrow, pb_length]; omega
theorem zrow_set (S a k : Nat) (hk : k < 16) : (zrow S k).set (15 - k) ((a + S / 256 ^ k) % 256) = zrow (a * 256 ^ k + S) (k + 1) := by
  unfold zrow
  rw [pb_step, List.set_append_left (h := by simp; omega), show 16 - k = (15 - k) + 1 from by omega, show 16 - (k + 1) = 15 - k from by omega, List.replicate_succ', List.set_append_right (h := by simp), List.length_replicate, Nat.sub_self, List.set_cons_zero]
  simp
theorem zrow_all (S : Nat) : zrow S 16 = pb S 16 := by simp [zrow]
theorem pb_halves (S : Nat) : pb S 16 = pb (whi S) 8 ++ pb (wlo S) 8 := by
  have e16 : List.range 16 = [0, 1, 2, 3, 4, 5, 6, 7, 8, 9, 10, 11, 12, 13, 14, 15] := rfl
  have e8 : List.range 8 = [0, 1, 2, 3, 4, 5, 6, 7] := rfl
  simp only [pb, e16, e8, List.map_cons, List.map_nil, List.cons_append, List.nil_append, List.cons.injEq, and_true, whi, wlo]
  refine ⟨?_, ?_, ?_, ?_, ?_, ?_, ?_, ?_, ?_, ?_, ?_, ?_, ?_, ?_, ?_, ?_⟩ <;> simp only [Nat.reduceSub, Nat.reducePow] <;> omega
/-- A sum's parts. -/
theorem sum_carry {X Y : List Nat} (hX : X.length = 16) (hY : Y.length = 16) (bX : ∀ x ∈ X, x < 256) (bY : ∀ x ∈ Y, x < 256) {k : Nat} (hk : k ≤ 16) : (sfx X k + sfx Y k) / 256 ^ k ≤ 1 := by
  have h1 := sfx_lt hX bX hk
  have h2 := sfx_lt hY bY hk
  have h3 : 0 < 256 ^ k := Nat.pow_pos (by decide)
  rw [← Nat.lt_succ_iff, Nat.div_lt_iff_lt_mul h3]
  omega
theorem sum_step {X Y : List Nat} (hX : X.length = 16) (hY : Y.length = 16) {k : Nat} (hk : k < 16) : sfx X (k + 1) + sfx Y (k + 1) = (X.getD (15 - k) 0 + Y.getD (15 - k) 0) * 256 ^ k + (sfx X k + sfx Y k) := by
  rw [sfx_succ hX hk, sfx_succ hY hk, Nat.add_mul]
  omega
theorem nmul_step {X : List Nat} (hX : X.length = 16) (n : Nat) {k : Nat} (hk : k < 16) : sfx X (k + 1) * n = X.getD (15 - k) 0 * n * 256 ^ k + sfx X k * n := by
  rw [sfx_succ hX hk, Nat.add_mul, Nat.mul_right_comm]
theorem mul_carry {X : List Nat} (hX : X.length = 16) (bX : ∀ x ∈ X, x < 256) {n k : Nat} (hn : n ≤ 255) (hk : k ≤ 16) : sfx X k * n / 256 ^ k ≤ 255 := by
  have h1 := sfx_lt hX bX hk
  have h3 : 0 < 256 ^ k := Nat.pow_pos (by decide)
  rw [← Nat.lt_succ_iff, Nat.div_lt_iff_lt_mul h3]
  calc sfx X k * n ≤ 256 ^ k * 255 := Nat.mul_le_mul (by omega) hn
    _ < Nat.succ 255 * 256 ^ k := by omega
/-- A digit of the whole product is the one that comes when it is reckoned byte by byte. -/
theorem mul_digit {X : List Nat} (hX : X.length = 16) (bX : ∀ x ∈ X, x < 256) (n : Nat) {k : Nat} (hk : k < 8) :
    wlo (sfx X 8 * n) / 2 ^ (8 * k) % 2 ^ 8 = (X.getD (15 - k) 0 * n + sfx X k * n / 256 ^ k) % 256 := by
  have e1 : wlo (sfx X 8 * n) = sfx X 8 * n % 256 ^ 8 := rfl
  have e2 : (sfx X 8 * n) % 256 ^ (k + 1) = (sfx X (k + 1) * n) % 256 ^ (k + 1) := by
    have h := sfx_mod hX bX (show k + 1 ≤ 8 by omega) (by decide)
    rw [← Nat.mod_mul_mod, h]
  have dig : ∀ N, N / 256 ^ k % 256 = N % 256 ^ (k + 1) / 256 ^ k := fun N => by
    rw [Nat.pow_succ, Nat.mod_mul_right_div_self]
  have e3 : ∀ N, N % 256 ^ 8 % 256 ^ (k + 1) = N % 256 ^ (k + 1) := fun N => by
    rw [show 256 ^ 8 = 256 ^ (k + 1) * 256 ^ (7 - k) from by rw [← Nat.pow_add]; congr 1; omega, Nat.mod_mul_right_mod]
  rw [e1, ← pow256, show 2 ^ 8 = 256 from rfl, dig, e3, e2, ← dig, nmul_step hX n (by omega), digit_add]
theorem whi_small {N : Nat} (h : N < 18446744073709551616 * 18446744073709551616) : whi N = N / 256 ^ 8 := by
  unfold whi
  rw [show 256 ^ 8 = 18446744073709551616 from by decide]
  omega
/-- Both halves are the whole. -/
theorem halves_be {X : List Nat} (hX : X.length = 16) : wnum (be (X.take 8)) (be (X.drop 8)) = sfx X 16 := by
  have e : sfx X 16 = be X := rfl
  have e2 : be X = be (X.take 8 ++ X.drop 8) := by rw [List.take_append_drop]
  have e3 : ∀ l m : List Nat, be (l ++ m) = be l * 256 ^ m.length + be m := by
    intro l m
    unfold be
    rw [List.foldl_append]
    exact foldl_acc m _
  rw [e, e2, e3, List.length_drop, hX]
  rfl
end Go.Proofs.Ytfnbbhnigndifaa
