/-
  Plain arithmetic of bytes: big-endian numbers. Nothing of the program.
  Plain arithmetic of bits: ones, a field of bits, a field put in. Nothing of the program.
  Plain arithmetic: the bytes of a number. Nothing of the program.
  Plain arithmetic of sums in ones' complement. Nothing of the program.
-/
import Derived.Laws.BitsAllLaws
import Derived.Laws.Shifts
namespace Go.Proofs.Ytemgnaalmgkfiaa

/-- The big-endian number of some bytes. -/
def be (l : List Nat) : Nat := l.foldl (fun n x => n * 256 + x) 0

theorem be_nil : be [] = 0 := rfl
theorem be_snoc (l : List Nat) (x : Nat) : be (l ++ [x]) = be l * 256 + x := by simp [be]
theorem be_acc (l : List Nat) (h : ∀ x ∈ l, x < 256) (a : Nat) : l.foldl (fun n x => n * 256 + x) a < (a + 1) * 256 ^ l.length := by
  induction l generalizing a with
  | nil => simp
  | cons x l ih =>
    have h1 := ih (fun y hy => h y (by simp [hy])) (a * 256 + x)
    have h2 := h x (by simp)
    rw [List.foldl_cons, List.length_cons, Nat.pow_succ, Nat.mul_comm (256 ^ l.length) 256, ← Nat.mul_assoc]
    exact Nat.lt_of_lt_of_le h1 (Nat.mul_le_mul_right _ (by omega))
theorem be_lt (l : List Nat) (h : ∀ x ∈ l, x < 256) : be l < 256 ^ l.length := by
  have h1 := be_acc l h 0
  simpa [be] using h1
theorem be_lt8 (l : List Nat) (h : ∀ x ∈ l, x < 256) (hl : l.length ≤ 8) : be l ≤ 18446744073709551615 := by
  have h1 := be_lt l h
  have h2 : 256 ^ l.length ≤ 256 ^ 8 := Nat.pow_le_pow_right (by omega) hl
  have h3 : 256 ^ 8 = 18446744073709551616 := by decide
  omega
theorem be_lt7 (l : List Nat) (h : ∀ x ∈ l, x < 256) (hl : l.length ≤ 7) : be l ≤ 72057594037927935 := by
  have h1 := be_lt l h
  have h2 : 256 ^ l.length ≤ 256 ^ 7 := Nat.pow_le_pow_right (by omega) hl
  have h3 : 256 ^ 7 = 72057594037927936 := by decide
  omega
theorem mem_take {l : List Nat} {k : Nat} (h : ∀ x ∈ l, x < 256) : ∀ x ∈ l.take k, x < 256 := fun x hx => h x (List.mem_of_mem_take hx)
theorem mem_drop {l : List Nat} {k : Nat} (h : ∀ x ∈ l, x < 256) : ∀ x ∈ l.drop k, x < 256 := fun x hx => h x (List.mem_of_mem_drop hx)
theorem take_succ_getD (l : List Nat) (k : Nat) (h : k < l.length) : l.take (k + 1) = l.take k ++ [l.getD k 0] := by
  rw [List.take_succ_eq_append_getElem h, List.getD_eq_getElem?_getD, List.getElem?_eq_getElem h]; rfl
theorem be_step (l : List Nat) (k : Nat) (h : k < l.length) : be (l.take (k + 1)) = be (l.take k) * 256 + l.getD k 0 := by rw [take_succ_getD l k h, be_snoc]

/-- 'n<<8 | x' where it fits. -/
theorem shl8_or (n x : Nat) (hn : n ≤ 72057594037927935) (hx : x < 256) : bits .or .u64 ((n : Int) * 256) (x : Int) = ((n * 256 + x : Nat) : Int) := by
  have h := u64_or_nat (n * 256) x (by omega) (by omega)
  rw [nat_join 8 (n * 256) x (by omega) (by omega)] at h
  simpa using h
end Go.Proofs.Ytemgnaalmgkfiaa

namespace Go.Proofs.Ytemgnaalmgkfiaa

theorem pow_le_64 {c : Nat} (h : c ≤ 64) : 2 ^ c ≤ 18446744073709551616 := by
  have h1 : 2 ^ c ≤ 2 ^ 64 := Nat.pow_le_pow_right (by omega) h
  have h2 : (2 : Nat) ^ 64 = 18446744073709551616 := by decide
  omega

theorem ones_eq (c : Nat) (h : c ≤ 64) : IntKind.u64.wrap (IntKind.u64.wrap (2 ^ c) - 1) = ((2 ^ c - 1 : Nat) : Int) := by
  have h1 := pow_le_64 h
  have h2 : 0 < 2 ^ c := Nat.two_pow_pos c
  have h3 : ((2 : Int) ^ c) = ((2 ^ c : Nat) : Int) := by simp
  rw [h3]
  generalize 2 ^ c = p at *
  rw [IntKind.wrap_u64, IntKind.wrap_u64]
  omega

/-- A field of bits. -/
theorem and_ones (q c : Nat) (hq : q ≤ 18446744073709551615) (h : c ≤ 64) : bits .and .u64 (q : Int) ((2 ^ c - 1 : Nat) : Int) = ((q % 2 ^ c : Nat) : Int) := by
  have h1 := pow_le_64 h
  rw [u64_and_nat q (2 ^ c - 1) (by omega) (by have := Nat.two_pow_pos c; omega), Nat.and_two_pow_sub_one_eq_mod]

/-- A field put in: its bits are x's, all others n's. -/
def setb (n f c x : Nat) : Nat := (n &&& (18446744073709551615 - (2 ^ c - 1) * 2 ^ f)) ||| ((x * 2 ^ f % 18446744073709551616) &&& ((2 ^ c - 1) * 2 ^ f))

theorem mask_bit (f c j : Nat) : ((2 ^ c - 1) * 2 ^ f).testBit j = (decide (f ≤ j) && decide (j < f + c)) := by
  rw [Nat.testBit_mul_two_pow, Nat.testBit_two_pow_sub_one]
  by_cases h : f ≤ j
  · simp [h]; omega
  · simp [h]
theorem mask_lt (f c : Nat) (h : f + c ≤ 64) : (2 ^ c - 1) * 2 ^ f < 18446744073709551616 := by
  have h1 : 2 ^ c * 2 ^ f ≤ 18446744073709551616 := by rw [← Nat.pow_add]; exact pow_le_64 (by omega)
  have h2 := Nat.two_pow_pos c
  have h3 := Nat.two_pow_pos f
  have h4 : (2 ^ c - 1) * 2 ^ f < 2 ^ c * 2 ^ f := Nat.mul_lt_mul_of_pos_right (by omega) h3
  omega
theorem notmask_bit (f c j : Nat) (h : f + c ≤ 64) (hj : j < 64) : (18446744073709551615 - (2 ^ c - 1) * 2 ^ f).testBit j = !(decide (f ≤ j) && decide (j < f + c)) := by
  have h1 := mask_lt f c h
  have e : 18446744073709551615 - (2 ^ c - 1) * 2 ^ f = 2 ^ 64 - ((2 ^ c - 1) * 2 ^ f + 1) := by
    have : (2 : Nat) ^ 64 = 18446744073709551616 := by decide
    omega
  rw [e, Nat.testBit_two_pow_sub_succ (by have : (2 : Nat) ^ 64 = 18446744073709551616 := by decide
                                          omega), mask_bit]
  simp [hj]
theorem setb_lt (n f c x : Nat) (h : f + c ≤ 64) : setb n f c x < 18446744073709551616 := by
  have h1 := mask_lt f c h
  have e : (2 : Nat) ^ 64 = 18446744073709551616 := by decide
  unfold setb
  rw [← e]
  refine Nat.or_lt_two_pow (Nat.and_lt_two_pow _ (by omega)) (Nat.and_lt_two_pow _ (by omega))
theorem setb_bit (n f c x j : Nat) (h : f + c ≤ 64) (hj : j < 64) : (setb n f c x).testBit j = if f ≤ j ∧ j < f + c then x.testBit (j - f) else n.testBit j := by
  unfold setb
  have e : (18446744073709551616 : Nat) = 2 ^ 64 := by decide
  rw [Nat.testBit_or, Nat.testBit_and, Nat.testBit_and, notmask_bit f c j h hj, mask_bit, e, Nat.testBit_mod_two_pow, Nat.testBit_mul_two_pow]
  by_cases h1 : f ≤ j
  · by_cases h2 : j < f + c
    · simp [h1, h2, hj]
    · simp [h1, h2]
  · simp [h1]
/-- The code's own text comes to it. -/
theorem setb_code (n f c x : Nat) (hn : n ≤ 18446744073709551615) (h : f + c ≤ 64) :
    bits .or .u64 (bits .andNot .u64 (n : Int) (IntKind.u64.wrap (((2 ^ c - 1 : Nat) : Int) * 2 ^ f))) (bits .and .u64 (IntKind.u64.wrap ((x : Int) * 2 ^ f)) (IntKind.u64.wrap (((2 ^ c - 1 : Nat) : Int) * 2 ^ f))) = ((setb n f c x : Nat) : Int) := by
  have h1 := mask_lt f c h
  have e1 : IntKind.u64.wrap (((2 ^ c - 1 : Nat) : Int) * 2 ^ f) = (((2 ^ c - 1) * 2 ^ f : Nat) : Int) := by
    rw [IntKind.wrap_u64]
    have : (((2 ^ c - 1 : Nat) : Int) * 2 ^ f) = (((2 ^ c - 1) * 2 ^ f : Nat) : Int) := by simp
    rw [this]
    omega
  have e2 : IntKind.u64.wrap ((x : Int) * 2 ^ f) = ((x * 2 ^ f % 18446744073709551616 : Nat) : Int) := by
    rw [IntKind.wrap_u64]
    have : ((x : Int) * 2 ^ f) = ((x * 2 ^ f : Nat) : Int) := by simp
    rw [this]
    omega
  rw [e1, e2, u64_andNot_nat _ _ (by omega) h1, u64_and_nat _ _ (by omega) h1]
  have e : (2 : Nat) ^ 64 = 18446744073709551616 := by decide
  rw [u64_or_nat]
  · rfl
  · rw [← e]; exact Nat.and_lt_two_pow _ (by omega)
  · rw [← e]; exact Nat.and_lt_two_pow _ (by omega)

theorem mod_pow_succ (q k : Nat) : q % 2 ^ (k + 1) = q / 2 % 2 ^ k * 2 + q % 2 := by
  rw [Nat.pow_succ, Nat.mul_comm (2 ^ k) 2, Nat.mod_mul]
  omega
theorem bit_step (n f c i : Nat) (h : i + 1 ≤ c) : n / 2 ^ (f + i) % 2 ^ (c - i) = n / 2 ^ (f + (i + 1)) % 2 ^ (c - (i + 1)) * 2 + n / 2 ^ (f + i) % 2 := by
  have e : c - i = c - (i + 1) + 1 := by omega
  rw [e, mod_pow_succ, Nat.div_div_eq_div_mul, ← Nat.pow_succ]
  rfl
theorem shr_step (S i : Nat) : S / 2 ^ i = S / 2 ^ (i + 1) * 2 + S / 2 ^ i % 2 := by
  rw [Nat.pow_succ, ← Nat.div_div_eq_div_mul]
  omega
theorem bit_of_testBit (n i : Nat) : n / 2 ^ i % 2 = if n.testBit i then 1 else 0 := by
  rw [Nat.testBit_eq_decide_div_mod_eq]
  by_cases h : n / 2 ^ i % 2 = 1
  · simp [h]
  · simp [h]; omega
theorem setb_step_in (n f c x i : Nat) (h : f + c ≤ 64) (hi : i < 64) (h1 : f ≤ i) (h2 : i < f + c) : setb n f c x / 2 ^ i % 2 = x / 2 ^ (i - f) % 2 := by
  have e := setb_bit n f c x i h hi
  rw [if_pos ⟨h1, h2⟩] at e
  rw [bit_of_testBit, bit_of_testBit, e]
theorem setb_step_out (n f c x i : Nat) (h : f + c ≤ 64) (hi : i < 64) (h1 : ¬ (f ≤ i ∧ i < f + c)) : setb n f c x / 2 ^ i % 2 = n / 2 ^ i % 2 := by
  have e := setb_bit n f c x i h hi
  rw [if_neg h1] at e
  rw [bit_of_testBit, bit_of_testBit, e]
end Go.Proofs.Ytemgnaalmgkfiaa

namespace Go.Proofs.Ytemgnaalmgkfiaa

/-- The m bytes of n, the highest first. -/
def pb (n m : Nat) : List Nat := (List.range m).map fun i => n / 256 ^ (m - 1 - i) % 256

theorem pb_length (n m : Nat) : (pb n m).length = m := by simp [pb]
theorem pb_byte (n m : Nat) : ∀ x ∈ pb n m, x < 256 := by
  intro x hx
  simp only [pb, List.mem_map] at hx
  obtain ⟨i, _, rfl⟩ := hx
  omega
theorem pb_get (n m i : Nat) (h : i < m) : (pb n m).getD i 0 = n / 256 ^ (m - 1 - i) % 256 := by
  rw [List.getD_eq_getElem?_getD, List.getElem?_eq_getElem (by rw [pb_length]; exact h)]
  simp [pb]
theorem pow256 (k : Nat) : 256 ^ k = 2 ^ (8 * k) := by rw [Nat.pow_mul]
theorem pow8_le {m : Nat} (h : m ≤ 8) : 256 ^ m ≤ 18446744073709551616 := by
  have h1 : 256 ^ m ≤ 256 ^ 8 := Nat.pow_le_pow_right (by omega) h
  have h3 : 256 ^ 8 = 18446744073709551616 := by decide
  omega
/-- The highest byte first: one more byte in front of the lower ones. -/
theorem pb_succ (n m : Nat) : pb n (m + 1) = n / 256 ^ m % 256 :: pb n m := by
  unfold pb
  rw [List.range_succ_eq_map]
  simp only [List.map_cons, List.map_map, Nat.sub_zero, Nat.add_sub_cancel]
  congr 1
  apply List.map_congr_left
  intro i _
  simp only [Function.comp, Nat.succ_eq_add_one]
  rw [show m - (i + 1) = m - 1 - i from by omega]
theorem foldl_acc (l : List Nat) (a : Nat) : l.foldl (fun n x => n * 256 + x) a = a * 256 ^ l.length + be l := by
  induction l generalizing a with
  | nil => simp [be]
  | cons x l ih =>
    rw [be, List.foldl_cons, List.foldl_cons, ih, ih (0 * 256 + x), List.length_cons, Nat.pow_succ, Nat.add_mul, Nat.zero_mul, Nat.zero_add, Nat.mul_assoc, Nat.mul_comm 256, Nat.add_assoc]
theorem be_cons (x : Nat) (l : List Nat) : be (x :: l) = x * 256 ^ l.length + be l := by
  rw [be, List.foldl_cons, foldl_acc]; simp
/-- What is read of the bytes of n is n. -/
theorem be_pb (n m : Nat) : be (pb n m) = n % 256 ^ m := by
  induction m with
  | zero => simp [pb, be, Nat.mod_one]
  | succ m ih =>
    rw [pb_succ, be_cons, pb_length, ih, Nat.pow_succ, Nat.mod_mul, Nat.mul_comm (256 ^ m), Nat.add_comm]
/-- 'byte(n >> (8*k))'. -/
theorem byte_shr (n k : Nat) : IntKind.u8.wrap ((n : Int) / 2 ^ (8 * k)) = ((n / 256 ^ k % 256 : Nat) : Int) := by
  rw [IntKind.wrap_u8', pow256]
  simp
end Go.Proofs.Ytemgnaalmgkfiaa

namespace Go.Proofs.Ytemgnaalmgkfiaa

/-- A sum of words, as the document counts it. -/
def orest (n : Nat) : Nat := if n = 0 then 0 else (n - 1) % 65535 + 1
theorem orest_zero : orest 0 = 0 := rfl
theorem orest_le (n : Nat) : orest n ≤ 65535 := by unfold orest; split <;> omega
theorem orest_small {n : Nat} (h : n ≤ 65535) : orest n = n := by unfold orest; split <;> omega
theorem orest_two {a b : Nat} (ha : a ≤ 65535) (hb : b ≤ 65535) : orest (a + b) = if 65535 < a + b then a + b - 65535 else a + b := by unfold orest; split <;> split <;> omega
theorem orest_eq {m n : Nat} (h0 : m = 0 ↔ n = 0) (h1 : m % 65535 = n % 65535) : orest m = orest n := by unfold orest; split <;> split <;> omega
theorem orest_iff {m n : Nat} : orest m = orest n ↔ (m = 0 ↔ n = 0) ∧ m % 65535 = n % 65535 := by
  refine ⟨fun h => ?_, fun h => orest_eq h.1 h.2⟩
  unfold orest at h
  split at h <;> split at h <;> constructor <;> omega
theorem orest_mod (n : Nat) : orest n % 65535 = n % 65535 := by unfold orest; split <;> omega
theorem orest_null (n : Nat) : orest n = 0 ↔ n = 0 := by unfold orest; split <;> omega
theorem orest_left (m n : Nat) : orest (orest m + n) = orest (m + n) := orest_eq (by have := orest_null m; omega) (by have := orest_mod m; omega)
theorem orest_right (m n : Nat) : orest (m + orest n) = orest (m + n) := orest_eq (by have := orest_null n; omega) (by have := orest_mod n; omega)
theorem orest_full (n : Nat) : orest n = 65535 ↔ n ≠ 0 ∧ n % 65535 = 0 := by unfold orest; split <;> omega

/-- What stands at an even place counts 256 times. -/
def wsum : Nat → List Nat → Nat
  | _, [] => 0
  | p, x :: l => (if p % 2 = 0 then 256 * x else x) + wsum (p + 1) l
theorem wsum_append (p : Nat) (l m : List Nat) : wsum p (l ++ m) = wsum p l + wsum (p + l.length) m := by
  induction l generalizing p with
  | nil => simp [wsum]
  | cons x l ih => simp only [List.cons_append, wsum, ih, List.length_cons]; rw [show p + 1 + l.length = p + (l.length + 1) from by omega]; omega
theorem wsum_parity (p q : Nat) (h : p % 2 = q % 2) (l : List Nat) : wsum p l = wsum q l := by
  induction l generalizing p q with
  | nil => rfl
  | cons x l ih => simp only [wsum, h]; rw [ih (p + 1) (q + 1) (by omega)]
theorem wsum_two (p : Nat) (l : List Nat) : wsum (p + 2) l = wsum p l := wsum_parity _ _ (by omega) l
theorem wsum_zero (p : Nat) (l : List Nat) : wsum p l = 0 ↔ ∀ x ∈ l, x = 0 := by
  induction l generalizing p with
  | nil => simp [wsum]
  | cons x l ih =>
    have h := ih (p + 1)
    simp only [wsum, List.mem_cons, forall_eq_or_imp]
    rw [← h]
    split <;> omega
/-- One byte on counts 256 times, up to 65535. -/
theorem wsum_shift (p : Nat) (l : List Nat) : wsum (p + 1) l % 65535 = 256 * wsum p l % 65535 := by
  induction l generalizing p with
  | nil => rfl
  | cons x l ih =>
    have h := ih (p + 1)
    simp only [wsum]
    split <;> split <;> omega
theorem wsum_bound (p : Nat) (l : List Nat) (h : ∀ x ∈ l, x < 256) : wsum p l ≤ 65280 * l.length := by
  induction l generalizing p with
  | nil => simp [wsum]
  | cons x l ih =>
    have h1 := ih (p + 1) fun y hy => h y (List.mem_cons_of_mem _ hy)
    have h2 := h x (List.mem_cons_self ..)
    simp only [wsum, List.length_cons]
    split <;> omega
theorem wsum_snoc (l : List Nat) (k : Nat) (h : k < l.length) : wsum 0 (l.take (k + 1)) = wsum 0 (l.take k) + (if k % 2 = 0 then 256 * l.getD k 0 else l.getD k 0) := by
  rw [take_succ_getD l k h, wsum_append, List.length_take, Nat.zero_add, Nat.min_eq_left (by omega)]
  simp [wsum]

/-- The word at an even place. -/
def wordAt (l : List Nat) (j : Nat) : Nat := l.getD (2 * j) 0 * 256 + l.getD (2 * j + 1) 0
theorem getD_beyond (l : List Nat) (k : Nat) (h : l.length ≤ k) : l.getD k 0 = 0 := by
  rw [List.getD_eq_getElem?_getD, List.getElem?_eq_none h]; rfl
theorem take_beyond (l : List Nat) (k : Nat) (h : l.length ≤ k) : l.take k = l := List.take_of_length_le h
/-- How many words bytes have. -/
def wcount (n : Nat) : Nat := (n + 1) / 2
theorem wsum_word (l : List Nat) (j : Nat) (h : 2 * j < l.length) : wsum 0 (l.take (2 * (j + 1))) = wsum 0 (l.take (2 * j)) + wordAt l j := by
  rw [show 2 * (j + 1) = 2 * j + 1 + 1 from by omega]
  unfold wordAt
  rcases Nat.lt_or_ge (2 * j + 1) l.length with h1 | h1
  · rw [wsum_snoc l (2 * j + 1) h1, wsum_snoc l (2 * j) h, if_pos (by omega), if_neg (by omega)]
    omega
  · rw [take_beyond l (2 * j + 1 + 1) (by omega), getD_beyond l (2 * j + 1) h1]
    have := wsum_snoc l (2 * j) h
    rw [take_beyond l (2 * j + 1) h1, if_pos (by omega)] at this
    rw [this]
    omega
/-- The first words, in their order. -/
def wordsTo (l : List Nat) (j : Nat) : List Nat := (List.range j).map (wordAt l)
theorem wordsTo_succ (l : List Nat) (j : Nat) : wordsTo l (j + 1) = wordsTo l j ++ [wordAt l j] := by simp [wordsTo, List.range_succ]
theorem wordsTo_length (l : List Nat) (j : Nat) : (wordsTo l j).length = j := by simp [wordsTo]
/-- Words added in ones' complement. -/
def osum (ws : List Nat) : Nat := ws.foldl (fun s x => orest (s + x)) 0
theorem osum_snoc (ws : List Nat) (x : Nat) : osum (ws ++ [x]) = orest (osum ws + x) := by simp [osum]
theorem osum_words (l : List Nat) (j : Nat) (h : 2 * j ≤ l.length + 1) : osum (wordsTo l j) = orest (wsum 0 (l.take (2 * j))) := by
  induction j with
  | zero => rfl
  | succ j ih =>
    rw [wordsTo_succ, osum_snoc, ih (by omega), orest_left, wsum_word l j (by omega)]
theorem osum_all (l : List Nat) : osum (wordsTo l (wcount l.length)) = orest (wsum 0 l) := by
  rw [osum_words l _ (by unfold wcount; omega), take_beyond l _ (by unfold wcount; omega)]
theorem wordAt_lt {l : List Nat} (h : ∀ x ∈ l, x < 256) (j : Nat) : wordAt l j ≤ 65535 := by
  have g : ∀ k, l.getD k 0 < 256 := fun k => by
    rcases Nat.lt_or_ge k l.length with hk | hk
    · rw [List.getD_eq_getElem?_getD, List.getElem?_eq_getElem hk]; exact h _ (List.getElem_mem hk)
    · rw [getD_beyond l k hk]; decide
  have h1 := g (2 * j)
  have h2 := g (2 * j + 1)
  unfold wordAt
  omega
theorem osum_le (ws : List Nat) (h : ∀ x ∈ ws, x ≤ 65535) : osum ws ≤ 65535 := by
  rcases List.eq_nil_or_concat ws with rfl | ⟨l, x, rfl⟩
  · decide
  · rw [List.concat_eq_append, osum_snoc]; exact orest_le _

/-- A word with its bytes changed. -/
def oswap (w : Nat) : Nat := w % 256 * 256 + w / 256
theorem oswap_le {w : Nat} (h : w ≤ 65535) : oswap w ≤ 65535 := by unfold oswap; omega
theorem oswap_eq {w : Nat} (h : w ≤ 65535) : oswap w = orest (256 * w) := by
  rw [← orest_small (oswap_le h)]
  exact orest_eq (by unfold oswap; omega) (by unfold oswap; omega)
/-- The sum of bytes in two parts. -/
theorem orest_parts (l : List Nat) (k : Nat) (hk : k ≤ l.length) :
    orest (orest (wsum 0 (l.take k)) + (if k % 2 = 0 then orest (wsum 0 (l.drop k)) else oswap (orest (wsum 0 (l.drop k))))) = orest (wsum 0 l) := by
  have e := wsum_append 0 (l.take k) (l.drop k)
  rw [List.take_append_drop, List.length_take, Nat.zero_add, Nat.min_eq_left hk] at e
  rw [e, orest_left]
  split
  · rename_i h
    rw [orest_right, wsum_parity k 0 (by omega)]
  · rename_i h
    rw [oswap_eq (orest_le _), orest_right]
    have e2 : wsum k (l.drop k) = wsum (0 + 1) (l.drop k) := wsum_parity _ _ (by omega) _
    have e3 := wsum_shift 0 (l.drop k)
    have e4 := wsum_zero (0 + 1) (l.drop k)
    have e5 := wsum_zero 0 (l.drop k)
    have e6 := orest_mod (wsum 0 (l.drop k))
    have e7 := orest_null (wsum 0 (l.drop k))
    rw [e2]
    generalize wsum (0 + 1) (l.drop k) = u at *
    generalize wsum 0 (l.drop k) = v at *
    generalize orest v = r at *
    have e8 : u = 0 ↔ v = 0 := e4.trans e5.symm
    exact orest_eq (by omega) (by omega)
end Go.Proofs.Ytemgnaalmgkfiaa
