/-
  Plain facts for BitrowBack: a row is known by its bits; bits set one by one; the bits of two rows together.
-/
import Derived.Test.YthikjngmaekjgaaBr7
namespace Go.Proofs.Ythikjngmaekjgaa
set_option linter.unusedVariables false

theorem word_ext {x y : Nat} (hx : x < 18446744073709551616) (hy : y < 18446744073709551616) (h : ∀ j, j < 64 → x.testBit j = y.testBit j) : x = y := by
  apply Nat.eq_of_testBit_eq
  intro j
  rcases Nat.lt_or_ge j 64 with hj | hj
  · exact h j hj
  · have h1 : x < 2 ^ j := Nat.lt_of_lt_of_le hx (Nat.pow_le_pow_right (by decide) hj : 2 ^ 64 ≤ 2 ^ j)
    have h2 : y < 2 ^ j := Nat.lt_of_lt_of_le hy (Nat.pow_le_pow_right (by decide) hj : 2 ^ 64 ≤ 2 ^ j)
    rw [Nat.testBit_lt_two_pow h1, Nat.testBit_lt_two_pow h2]
theorem row_ext {xs ys : List Nat} (hl : xs.length = ys.length) (hx : ∀ x ∈ xs, x < 18446744073709551616) (hy : ∀ x ∈ ys, x < 18446744073709551616) (h : ∀ i, i < 64 * xs.length → tb xs i = tb ys i) : xs = ys := by
  apply List.ext_getElem hl
  intro k h1 h2
  apply word_ext (hx _ (List.getElem_mem h1)) (hy _ (List.getElem_mem h2))
  intro j hj
  have := h (64 * k + j) (by omega)
  rw [tb_word xs k j hj, tb_word ys k j hj, List.getD_eq_getElem?_getD, List.getD_eq_getElem?_getD, List.getElem?_eq_getElem h1, List.getElem?_eq_getElem h2] at this
  exact this
theorem tb_zero (n i : Nat) : tb (List.replicate n 0) i = false := by
  unfold tb
  rw [List.getD_eq_getElem?_getD, List.getElem?_replicate]
  split <;> simp

theorem bitsOf_sorted (xs : List Nat) (k : Nat) (h : k + 1 < (bitsOf xs).length) : (bitsOf xs).getD k 0 < (bitsOf xs).getD (k + 1) 0 := by
  have hp : List.Pairwise (· < ·) (bitsOf xs) := List.Pairwise.filter _ List.pairwise_lt_range
  rw [List.pairwise_iff_getElem] at hp
  have := hp k (k + 1) (by omega) h (by omega)
  rw [List.getD_eq_getElem?_getD, List.getD_eq_getElem?_getD, List.getElem?_eq_getElem (by omega), List.getElem?_eq_getElem h]
  exact this
/-- Bits set one by one in an empty row. -/
def setAll (n : Nat) (l : List Nat) : List Nat := l.foldl setRow (List.replicate n 0)
theorem setAll_snoc (n : Nat) (l : List Nat) (i : Nat) : setAll n (l ++ [i]) = setRow (setAll n l) i := by simp [setAll]
theorem setAll_length (n : Nat) (l : List Nat) : (setAll n l).length = n := by
  unfold setAll
  suffices ∀ (l r : List Nat), (l.foldl setRow r).length = r.length by rw [this]; simp
  intro l
  induction l with
  | nil => intro r; rfl
  | cons x l ih => intro r; rw [List.foldl_cons, ih, setRow_length]
theorem setAll_word (n : Nat) (l : List Nat) : ∀ x ∈ setAll n l, x < 18446744073709551616 := by
  unfold setAll
  suffices ∀ (l r : List Nat), (∀ x ∈ r, x < 18446744073709551616) → ∀ x ∈ l.foldl setRow r, x < 18446744073709551616 from this l _ (fun x hx => by rw [List.eq_of_mem_replicate hx]; decide)
  intro l
  induction l with
  | nil => intro r h; exact h
  | cons x l ih => intro r h; exact ih _ (setRow_word h x)
theorem tb_setAll (n : Nat) (l : List Nat) (h : ∀ i ∈ l, i < 64 * n) (j : Nat) : tb (setAll n l) j = decide (j ∈ l) := by
  suffices ∀ (l r : List Nat), r.length = n → (∀ i ∈ l, i < 64 * n) → tb (l.foldl setRow r) j = (tb r j || decide (j ∈ l)) by
    unfold setAll
    rw [this l _ (by simp) h, tb_zero, Bool.false_or]
  intro l
  induction l with
  | nil => intro r _ _; simp
  | cons x l ih =>
    intro r hr h
    rw [List.foldl_cons, ih _ (by rw [setRow_length]; exact hr) (fun i hi => h i (by simp [hi])), tb_setRow (by rw [hr]; have := h x (by simp); omega)]
    have e : (x = j) ↔ (j = x) := eq_comm
    simp [e, Bool.or_assoc]
theorem setAll_bits (xs : List Nat) (hx : ∀ x ∈ xs, x < 18446744073709551616) : setAll xs.length (bitsOf xs) = xs := by
  have hb : ∀ i ∈ bitsOf xs, i < 64 * xs.length := fun i hi => (mem_upTo.1 hi).1
  refine row_ext (setAll_length _ _) (setAll_word _ _) hx fun i hi => ?_
  rw [setAll_length] at hi
  rw [tb_setAll _ _ hb]
  by_cases h : tb xs i = true
  · rw [h]
    exact decide_eq_true (mem_upTo.2 ⟨hi, h⟩)
  · have e : decide (i ∈ bitsOf xs) = false := decide_eq_false (fun hm => h (mem_upTo.1 hm).2)
    rw [e]
    cases hq : tb xs i with
    | true => exact absurd hq h
    | false => rfl

theorem tb_range (f : Nat → Nat) (m i : Nat) (h : i < 64 * m) : tb ((List.range m).map f) i = (f (i / 64)).testBit (i % 64) := by
  unfold tb
  rw [getD_range f m (i / 64) (by omega)]
theorem ones_bit (j : Nat) (h : j < 64) : (18446744073709551615 : Nat).testBit j = true := by
  have : (18446744073709551615 : Nat) = 2 ^ 64 - 1 := by decide
  rw [this, Nat.testBit_two_pow_sub_one]
  exact decide_eq_true h
/-- Bit i in all of the first k rows, in any of them. -/
theorem tb_andTo (xss : List (List Nat)) (w j : Nat) (hj : j < 64) : ∀ k, k ≤ xss.length → (andTo xss k w).testBit j = (xss.take k).all fun r => (r.getD w 0).testBit j := by
  intro k
  induction k with
  | zero => intro _; exact ones_bit j hj
  | succ k ih =>
    intro h
    rw [andTo_succ (by omega), Nat.testBit_and, ih (by omega), take_succ_rows xss k (by omega), List.all_append]
    simp
theorem tb_orTo (xss : List (List Nat)) (w j : Nat) : ∀ k, k ≤ xss.length → (orTo xss k w).testBit j = (xss.take k).any fun r => (r.getD w 0).testBit j := by
  intro k
  induction k with
  | zero => intro _; exact Nat.zero_testBit j
  | succ k ih =>
    intro h
    rw [orTo_succ (by omega), Nat.testBit_or, ih (by omega), take_succ_rows xss k (by omega), List.any_append]
    simp
theorem tb_andRow {xss : List (List Nat)} {i : Nat} (h : i < 64 * minL xss) : tb (andRow xss) i = xss.all fun r => tb r i := by
  unfold andRow
  rw [tb_range _ _ _ h, tb_andTo xss _ _ (by omega) _ (Nat.le_refl _), List.take_length]
  rfl
theorem tb_orRow {xss : List (List Nat)} {i : Nat} (h : i < 64 * maxL xss) : tb (orRow xss) i = xss.any fun r => tb r i := by
  unfold orRow
  rw [tb_range _ _ _ h, tb_orTo xss _ _ _ (Nat.le_refl _), List.take_length]
  rfl
theorem minL_two {a b : List Nat} {n : Nat} (ha : a.length = n) (hb : b.length = n) : minL [a, b] = n := by
  show min (min a.length a.length) b.length = n
  omega
theorem maxL_two {a b : List Nat} {n : Nat} (ha : a.length = n) (hb : b.length = n) : maxL [a, b] = n := by
  show max (max 0 a.length) b.length = n
  omega
theorem tb_and2 {a b : List Nat} {n i : Nat} (ha : a.length = n) (hb : b.length = n) (h : i < 64 * n) : tb (andRow [a, b]) i = (tb a i && tb b i) := by
  rw [tb_andRow (by rw [minL_two ha hb]; exact h)]
  simp
theorem tb_or2 {a b : List Nat} {n i : Nat} (ha : a.length = n) (hb : b.length = n) (h : i < 64 * n) : tb (orRow [a, b]) i = (tb a i || tb b i) := by
  rw [tb_orRow (by rw [maxL_two ha hb]; exact h)]
  simp
theorem filter_sum (l : List Nat) (p q r s : Nat → Bool) (hr : ∀ i ∈ l, r i = (p i && q i)) (hs : ∀ i ∈ l, s i = (p i || q i)) : (l.filter r).length + (l.filter s).length = (l.filter p).length + (l.filter q).length := by
  induction l with
  | nil => rfl
  | cons x l ih =>
    have h1 := ih (fun i hi => hr i (by simp [hi])) (fun i hi => hs i (by simp [hi]))
    have h2 := hr x (by simp)
    have h3 := hs x (by simp)
    simp only [List.filter_cons, h2, h3]
    cases p x <;> cases q x <;> simp <;> omega
theorem count_two {a b : List Nat} {n : Nat} (ha : a.length = n) (hb : b.length = n) : (bitsOf (andRow [a, b])).length + (bitsOf (orRow [a, b])).length = (bitsOf a).length + (bitsOf b).length := by
  unfold bitsOf upTo
  rw [andRow_length, orRow_length, minL_two ha hb, maxL_two ha hb, ha, hb]
  exact filter_sum _ _ _ _ _ (fun i hi => tb_and2 ha hb (List.mem_range.1 hi)) (fun i hi => tb_or2 ha hb (List.mem_range.1 hi))

/-- The bits below k that P tells, set in a row of n words. -/
def mkRow (P : Nat → Bool) (n k : Nat) : List Nat := setAll n ((List.range k).filter P)
theorem mkRow_zero (P : Nat → Bool) (n : Nat) : mkRow P n 0 = List.replicate n 0 := rfl
theorem mkRow_yes {P : Nat → Bool} {n k : Nat} (h : P k = true) : mkRow P n (k + 1) = setRow (mkRow P n k) k := by
  unfold mkRow
  rw [List.range_succ, List.filter_append, ← setAll_snoc]
  simp [h]
theorem mkRow_no {P : Nat → Bool} {n k : Nat} (h : P k = false) : mkRow P n (k + 1) = mkRow P n k := by
  unfold mkRow
  rw [List.range_succ, List.filter_append]
  simp [h]
theorem mkRow_length (P : Nat → Bool) (n k : Nat) : (mkRow P n k).length = n := setAll_length _ _
theorem mkRow_word (P : Nat → Bool) (n k : Nat) : ∀ x ∈ mkRow P n k, x < 18446744073709551616 := setAll_word _ _
theorem mkRow_all {P : Nat → Bool} {xs : List Nat} (hx : ∀ x ∈ xs, x < 18446744073709551616) (h : ∀ i, i < 64 * xs.length → tb xs i = P i) : mkRow P xs.length (64 * xs.length) = xs := by
  refine row_ext (mkRow_length _ _ _) (mkRow_word _ _ _) hx fun i hi => ?_
  rw [mkRow_length] at hi
  unfold mkRow
  rw [tb_setAll _ _ (fun j hj => by have := List.mem_range.1 (List.mem_filter.1 hj).1; exact this), h i hi]
  cases hp : P i with
  | true => exact decide_eq_true (List.mem_filter.2 ⟨List.mem_range.2 hi, hp⟩)
  | false => exact decide_eq_false (fun hm => by have := (List.mem_filter.1 hm).2; rw [hp] at this; cases this)
end Go.Proofs.Ythikjngmaekjgaa
