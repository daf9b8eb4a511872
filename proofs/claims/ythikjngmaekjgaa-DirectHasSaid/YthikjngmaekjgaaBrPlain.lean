/-
  Plain facts about rows of bits: which bits are set, how many, the lowest one; nothing is claimed of the program here.
-/
import Derived.Test.YthikjngmaekjgaaPlain
import Derived.Lib.TrailingZeros
namespace Go.Proofs.Ythikjngmaekjgaa
set_option linter.unusedVariables false

/-- Is bit i of a row set? -/
def tb (xs : List Nat) (i : Nat) : Bool := (xs.getD (i / 64) 0).testBit (i % 64)
/-- The bits below p that are set. -/
def upTo (xs : List Nat) (p : Nat) : List Nat := (List.range p).filter (tb xs)
/-- All bits that are set. -/
def bitsOf (xs : List Nat) : List Nat := upTo xs (64 * xs.length)
theorem upTo_zero (xs : List Nat) : upTo xs 0 = [] := rfl
theorem upTo_set {xs : List Nat} {p : Nat} (h : tb xs p = true) : upTo xs (p + 1) = upTo xs p ++ [p] := by
  unfold upTo
  rw [List.range_succ, List.filter_append]
  simp [h]
theorem upTo_unset {xs : List Nat} {p : Nat} (h : tb xs p = false) : upTo xs (p + 1) = upTo xs p := by
  unfold upTo
  rw [List.range_succ, List.filter_append]
  simp [h]
theorem upTo_skip {xs : List Nat} {p : Nat} : ∀ (d : Nat), (∀ q, p ≤ q → q < p + d → tb xs q = false) → upTo xs (p + d) = upTo xs p := by
  intro d
  induction d with
  | zero => intro _; rfl
  | succ d ih =>
    intro h
    rw [← Nat.add_assoc, upTo_unset (h (p + d) (by omega) (by omega)), ih (fun q h1 h2 => h q h1 (by omega))]
theorem upTo_skip' {xs : List Nat} {p p' : Nat} (hp : p ≤ p') (h : ∀ q, p ≤ q → q < p' → tb xs q = false) : upTo xs p' = upTo xs p := by
  obtain ⟨d, rfl⟩ := Nat.exists_eq_add_of_le hp
  exact upTo_skip d h
theorem mem_upTo {xs : List Nat} {p i : Nat} : i ∈ upTo xs p ↔ i < p ∧ tb xs i = true := by simp [upTo]
theorem upTo_length (xs : List Nat) (p : Nat) : (upTo xs p).length ≤ p := by
  unfold upTo
  refine Nat.le_trans (List.length_filter_le _ _) ?_
  simp
theorem tb_word (xs : List Nat) (k j : Nat) (hj : j < 64) : tb xs (64 * k + j) = (xs.getD k 0).testBit j := by
  unfold tb
  rw [show (64 * k + j) / 64 = k from by omega, show (64 * k + j) % 64 = j from by omega]
theorem tb_beyond {xs : List Nat} {i : Nat} (h : 64 * xs.length ≤ i) : tb xs i = false := by
  unfold tb
  rw [List.getD_eq_getElem?_getD, List.getElem?_eq_none (by omega)]
  simp

/-- What is left of a word when its bits below c are cleared. -/
def Rem (x0 c x : Nat) : Prop := x < 18446744073709551616 ∧ ∀ j, x.testBit j = (decide (c ≤ j) && x0.testBit j)
theorem Rem.start {x : Nat} (h : x < 18446744073709551616) : Rem x 0 x := ⟨h, fun j => by simp⟩
theorem Rem.none {x0 c : Nat} (h : Rem x0 c 0) : ∀ j, c ≤ j → x0.testBit j = false := fun j hj => by
  have := h.2 j
  simpa [hj] using this
theorem odd_bits (t m j : Nat) : (2 ^ t * (2 * m + 1)).testBit j = (decide (t ≤ j) && (2 * m + 1).testBit (j - t)) := by
  rw [Nat.testBit_two_pow_mul]
theorem low_cleared (t m : Nat) : (2 ^ t * (2 * m + 1)) &&& (2 ^ t * (2 * m + 1) - 1) = 2 ^ t * (2 * m) := by
  have e : 2 ^ t * (2 * m + 1) - 1 = 2 ^ t * (2 * m) + (2 ^ t - 1) := by
    have := Nat.two_pow_pos t
    rw [Nat.mul_add, Nat.mul_one]
    omega
  have hl : 2 ^ t - 1 < 2 ^ t := by have := Nat.two_pow_pos t; omega
  rw [e]
  apply Nat.eq_of_testBit_eq
  intro j
  rw [Nat.testBit_and, odd_bits, Nat.testBit_two_pow_mul_add _ hl, Nat.testBit_two_pow_mul]
  by_cases hj : j < t
  · have : ¬ t ≤ j := by omega
    simp [this]
  · have h1 : t ≤ j := by omega
    rw [if_neg hj]
    simp only [h1, decide_true, Bool.true_and, ge_iff_le]
    cases hd : j - t with
    | zero => simp [Nat.testBit_zero]
    | succ d =>
      rw [Nat.testBit_succ, Nat.testBit_succ, show (2 * m + 1) / 2 = m from by omega, show 2 * m / 2 = m from by omega, Bool.and_self]
/-- The lowest bit that is left, and what is left behind it. -/
theorem Rem.step {x0 c x : Nat} (h : Rem x0 c x) (h0 : x ≠ 0) :
    ∃ t, Lib.ctz 64 x = t ∧ t < 64 ∧ c ≤ t ∧ x0.testBit t = true ∧ (∀ j, c ≤ j → j < t → x0.testBit j = false) ∧ Rem x0 (t + 1) (x &&& (x - 1)) ∧ (x &&& (x - 1)) < x := by
  obtain ⟨m, hm, ht⟩ := Lib.ctzFrom_spec 64 x (by omega) h.1
  have e : Lib.ctz 64 x = Lib.ctzFrom 64 x := by simp [Lib.ctz, h0]
  rw [← e] at hm ht
  generalize Lib.ctz 64 x = t at *
  have hbit : x.testBit t = true := by rw [hm, odd_bits]; simp [Nat.testBit_zero]
  have hlow : ∀ j, j < t → x.testBit j = false := fun j hj => by
    rw [hm, odd_bits]
    have : ¬ t ≤ j := by omega
    simp [this]
  have hc : c ≤ t ∧ x0.testBit t = true := by
    have := h.2 t
    rw [hbit] at this
    simpa using this.symm
  have hand : x &&& (x - 1) = 2 ^ t * (2 * m) := by
    rw [hm]; exact low_cleared t m
  refine ⟨t, rfl, ht, hc.1, hc.2, fun j h1 h2 => ?_, ⟨?_, fun j => ?_⟩, ?_⟩
  · have := h.2 j
    rw [hlow j h2] at this
    simpa [h1] using this.symm
  · exact Nat.lt_of_le_of_lt Nat.and_le_left h.1
  · have hx := h.2 j
    rw [hm, odd_bits] at hx
    rw [hand, Nat.testBit_two_pow_mul]
    by_cases h1 : t + 1 ≤ j
    · have h2 : t ≤ j := by omega
      have h3 : c ≤ j := by omega
      obtain ⟨d, hd⟩ : ∃ d, j - t = d + 1 := ⟨j - t - 1, by omega⟩
      simp only [h1, h2, h3, hd, decide_true, Bool.true_and, ge_iff_le] at hx ⊢
      rw [Nat.testBit_succ, show (2 * m + 1) / 2 = m from by omega] at hx
      rw [Nat.testBit_succ, show 2 * m / 2 = m from by omega]
      exact hx
    · by_cases h2 : t ≤ j
      · have h3 : j - t = 0 := by omega
        simp [h1, h3, Nat.testBit_zero]
      · simp [h1, h2]
  · exact Nat.lt_of_le_of_lt Nat.and_le_right (by omega)

/-! How many bits a word has. -/
def dsum (b : Nat) : Nat → Nat → Nat
  | 0, _ => 0
  | n + 1, x => x % b + dsum b n (x / b)
def foldTwo (b : Nat) : Nat → Nat → Nat
  | 0, _ => 0
  | n + 1, x => (x % b + x / b % b) + b * b * foldTwo b n (x / (b * b))
def msk (b : Nat) : Nat → Nat
  | 0 => 0
  | n + 1 => (b - 1) + b * b * msk b n
theorem and_split (x r M k : Nat) (hr : r < 2 ^ k) : x &&& (r + 2 ^ k * M) = (x % 2 ^ k &&& r) + 2 ^ k * (x / 2 ^ k &&& M) := by
  have h1 : (x &&& (r + 2 ^ k * M)) % 2 ^ k = x % 2 ^ k &&& r := by
    rw [Nat.and_mod_two_pow, Nat.add_mul_mod_self_left, Nat.mod_eq_of_lt hr]
  have h2 : (x &&& (r + 2 ^ k * M)) / 2 ^ k = x / 2 ^ k &&& M := by
    rw [Nat.and_div_two_pow, Nat.add_mul_div_left _ _ (Nat.two_pow_pos k), Nat.div_eq_of_lt hr, Nat.zero_add]
  rw [← h1, ← h2]
  exact (Nat.mod_add_div _ _).symm
theorem msk_and (k n x : Nat) : x &&& msk (2 ^ k) (n + 1) = x % 2 ^ k + 2 ^ k * 2 ^ k * (x / (2 ^ k * 2 ^ k) &&& msk (2 ^ k) n) := by
  have hp := Nat.two_pow_pos k
  have e : 2 ^ k * 2 ^ k = 2 ^ (k + k) := (Nat.pow_add 2 k k).symm
  show x &&& ((2 ^ k - 1) + 2 ^ k * 2 ^ k * msk (2 ^ k) n) = _
  have hle : 2 ^ k ≤ 2 ^ (k + k) := Nat.pow_le_pow_right (by decide) (by omega)
  rw [e, and_split _ _ _ _ (by omega)]
  congr 1
  rw [Nat.and_two_pow_sub_one_eq_mod, Nat.pow_add, Nat.mod_mul_right_mod]
theorem fold_and (k : Nat) : ∀ n x, (x / 2 ^ k &&& msk (2 ^ k) n) + (x &&& msk (2 ^ k) n) = foldTwo (2 ^ k) n x := by
  intro n
  induction n with
  | zero => intro x; simp [msk, foldTwo]
  | succ n ih =>
    intro x
    rw [msk_and, msk_and]
    have h := ih (x / (2 ^ k * 2 ^ k))
    have e : x / 2 ^ k / (2 ^ k * 2 ^ k) = x / (2 ^ k * 2 ^ k) / 2 ^ k := by
      rw [Nat.div_div_eq_div_mul, Nat.div_div_eq_div_mul, Nat.mul_comm]
    rw [e]
    show _ = (x % 2 ^ k + x / 2 ^ k % 2 ^ k) + 2 ^ k * 2 ^ k * foldTwo (2 ^ k) n (x / (2 ^ k * 2 ^ k))
    rw [← h, Nat.mul_add]
    omega
theorem dsum_fold (b : Nat) (hb : 2 ≤ b) : ∀ n x, dsum (b * b) n (foldTwo b n x) = dsum b (2 * n) x := by
  intro n
  induction n with
  | zero => intro x; rfl
  | succ n ih =>
    intro x
    have h1 : x % b < b := Nat.mod_lt _ (by omega)
    have h2 : x / b % b < b := Nat.mod_lt _ (by omega)
    have h3 : 2 * b ≤ b * b := Nat.mul_le_mul_right b hb
    have hpos : 0 < b * b := by omega
    show (foldTwo b (n + 1) x) % (b * b) + dsum (b * b) n (foldTwo b (n + 1) x / (b * b)) = _
    have e1 : foldTwo b (n + 1) x = (x % b + x / b % b) + b * b * foldTwo b n (x / (b * b)) := rfl
    have hlt : x % b + x / b % b < b * b := by omega
    rw [e1, Nat.add_mul_mod_self_left, Nat.add_mul_div_left _ _ hpos, Nat.mod_eq_of_lt hlt, Nat.div_eq_of_lt hlt, Nat.zero_add, ih]
    rw [show 2 * (n + 1) = 2 * n + 1 + 1 from by omega]
    show _ = x % b + (x / b % b + dsum b (2 * n) (x / b / b))
    rw [Nat.div_div_eq_div_mul, Nat.add_assoc]
/-- All digits are at most c. -/
def digs_le (b c : Nat) : Nat → Nat → Prop
  | 0, x => x = 0
  | n + 1, x => x % b ≤ c ∧ digs_le b c n (x / b)
theorem fold_digs (b c : Nat) (hb : 2 ≤ b) (hc : c < b) : ∀ n x, digs_le b c (2 * n) x → digs_le (b * b) (2 * c) n (foldTwo b n x) := by
  intro n
  induction n with
  | zero => intro x _; rfl
  | succ n ih =>
    intro x h
    rw [show 2 * (n + 1) = 2 * n + 1 + 1 from by omega] at h
    obtain ⟨h1, h2, h3⟩ := h
    have h4 : 2 * b ≤ b * b := Nat.mul_le_mul_right b hb
    have hpos : 0 < b * b := by omega
    have e1 : foldTwo b (n + 1) x = (x % b + x / b % b) + b * b * foldTwo b n (x / (b * b)) := rfl
    have hlt : x % b + x / b % b < b * b := by omega
    refine ⟨?_, ?_⟩
    · rw [e1, Nat.add_mul_mod_self_left, Nat.mod_eq_of_lt hlt]; omega
    · rw [e1, Nat.add_mul_div_left _ _ hpos, Nat.div_eq_of_lt hlt, Nat.zero_add]
      rw [Nat.div_div_eq_div_mul] at h3
      exact ih _ h3
theorem fold_add (k c : Nat) (hc : 2 * c < 2 ^ k) : ∀ n x, digs_le (2 ^ k) c (2 * n) x → (x / 2 ^ k + x) &&& msk (2 ^ k) n = foldTwo (2 ^ k) n x := by
  intro n
  induction n with
  | zero => intro x _; simp [msk, foldTwo]
  | succ n ih =>
    intro x h
    rw [show 2 * (n + 1) = 2 * n + 1 + 1 from by omega] at h
    obtain ⟨h1, h2, h3⟩ := h
    rw [msk_and]
    obtain ⟨b, hb⟩ : ∃ b, 2 ^ k = b := ⟨_, rfl⟩
    have hbp : 0 < b := by rw [← hb]; exact Nat.two_pow_pos k
    rw [hb] at hc h1 h2 h3 ih ⊢
    have hx : x = x % b + b * (x / b % b) + b * b * (x / (b * b)) := by
      have a1 := Nat.mod_add_div x b
      have a2 := Nat.mod_add_div (x / b) b
      rw [Nat.div_div_eq_div_mul] at a2
      calc x = x % b + b * (x / b) := a1.symm
        _ = x % b + b * (x / b % b + b * (x / (b * b))) := by rw [a2]
        _ = _ := by rw [Nat.mul_add, Nat.mul_assoc, Nat.add_assoc]
    rw [Nat.div_div_eq_div_mul] at h3
    obtain ⟨y, hy⟩ : ∃ y, y = x / (b * b) := ⟨_, rfl⟩
    obtain ⟨d0, hd0⟩ : ∃ d, d = x % b := ⟨_, rfl⟩
    obtain ⟨d1, hd1⟩ : ∃ d, d = x / b % b := ⟨_, rfl⟩
    rw [← hy] at h3 hx
    rw [← hd0] at h1 hx
    rw [← hd1] at h2 hx
    have hih := ih y h3
    have e0 : foldTwo b (n + 1) x = (d0 + d1) + b * b * foldTwo b n y := by rw [hd0, hd1, hy]; rfl
    have hy0 : y % b ≤ c := by
      cases n with
      | zero => rw [show y = 0 from h3]; simp
      | succ n => rw [show 2 * (n + 1) = 2 * n + 1 + 1 from by omega] at h3; exact h3.1
    have hdiv : x / b = d1 + b * y := by
      rw [hx, Nat.mul_assoc, Nat.add_assoc, ← Nat.mul_add, Nat.add_mul_div_left _ _ hbp, Nat.div_eq_of_lt (by omega), Nat.zero_add]
    have hyb : y = y % b + b * (y / b) := (Nat.mod_add_div y b).symm
    have hsum : x / b + x = (d0 + d1) + b * (d1 + y % b) + b * b * (y / b + y) := by
      rw [hdiv, hx]
      have : b * y = b * (y % b) + b * b * (y / b) := by rw [Nat.mul_assoc, ← Nat.mul_add, ← hyb]
      rw [Nat.mul_add b d1, Nat.mul_add (b * b)]
      omega
    have hlt : (d0 + d1) + b * (d1 + y % b) < b * b := by
      have g1 : d0 + d1 < b := by omega
      have g2 : d1 + y % b + 1 ≤ b := by omega
      have g3 : b * (d1 + y % b + 1) ≤ b * b := Nat.mul_le_mul_left b g2
      rw [Nat.mul_add, Nat.mul_one] at g3
      omega
    have q1 : (x / b + x) % b = d0 + d1 := by
      rw [hsum, Nat.mul_assoc, Nat.add_assoc, ← Nat.mul_add, Nat.add_mul_mod_self_left, Nat.mod_eq_of_lt (by omega)]
    have q2 : (x / b + x) / (b * b) = y / b + y := by
      rw [hsum, Nat.add_mul_div_left _ _ (Nat.mul_pos hbp hbp), Nat.div_eq_of_lt hlt, Nat.zero_add]
    rw [q1, q2, hih, e0]
theorem dsum_two : ∀ n x, dsum 2 n x = ((List.range n).filter fun j => x.testBit j).length := by
  intro n
  induction n with
  | zero => intro x; rfl
  | succ n ih =>
    intro x
    rw [show dsum 2 (n + 1) x = x % 2 + dsum 2 n (x / 2) from rfl, ih, List.range_succ_eq_map, List.filter_cons, List.filter_map]
    have e : (fun j => Nat.testBit (x / 2) j) = (fun j => x.testBit j) ∘ Nat.succ := by
      funext j
      simp [Nat.testBit_succ]
    rw [e]
    by_cases h : x.testBit 0 = true
    · rw [if_pos h, List.length_cons, List.length_map]
      rw [Nat.testBit_zero] at h
      have : x % 2 = 1 := by simpa using h
      omega
    · rw [if_neg h, List.length_map]
      rw [Nat.testBit_zero] at h
      have : x % 2 ≠ 1 := by simpa using h
      omega
theorem digs_two : ∀ n x, x < 2 ^ n → digs_le 2 1 n x := by
  intro n
  induction n with
  | zero => intro x h; show x = 0; omega
  | succ n ih =>
    intro x h
    rw [Nat.pow_succ] at h
    exact ⟨by omega, ih _ (by omega)⟩
end Go.Proofs.Ythikjngmaekjgaa
