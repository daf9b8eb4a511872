/-
  Plain arithmetic of sums in ones' complement. Nothing of the program.
-/
import Derived.Test.YtlopmkmcjcijcaaPlain3
namespace Go.Proofs.Ytlopmkmcjcijcaa

/-- A sum of words, as the document counts it. -/
def orest (n : Nat) : Nat := if n = 0 then 0 else (n - 1) % 65535 + 1
theorem orest_zero : orest 0 = 0 := rfl
theorem orest_le (n : Nat) : orest n ≤ 65535 := by unfold orest; split <;> omega
theorem orest_small {n : Nat} (h : n ≤ 65535) : orest n = n := by unfold orest; split <;> omega
theorem orest_two {a b : Nat} (ha : a ≤ 65535) (hb : b ≤ 65535) : orest (a + b) = if 65535 < a + b then a + b - 65535 else a + b := by unfold orest; split <;> split <;> omega
theorem orest_eq {m n : Nat} (h0 : m = 0 ↔ n = 0) (h1 : m % 65535 = n % 65535) : orest m = orest n := by unfold orest; split <;> split <;> omega
theorem orest_iff {m n : Nat} : orest m = orest n ↔ (m = 0 ↔ n = 0) ∧ m % 65535 = n % 65535 := by
  refine ⟨fun h => ?_, fun h => orest_eq h.1 h.2⟩
  unfold orest at h
  split at h <;> split at h <;> constructor <;> omega
theorem orest_mod (n : Nat) : orest n % 65535 = n % 65535 := by unfold orest; split <;> omega
theorem orest_null (n : Nat) : orest n = 0 ↔ n = 0 := by unfold orest; split <;> omega
theorem orest_left (m n : Nat) : orest (orest m + n) = orest (m + n) := orest_eq (by have := orest_null m; omega) (by have := orest_mod m; omega)
theorem orest_right (m n : Nat) : orest (m + orest n) = orest (m + n) := orest_eq (by have := orest_null n; omega) (by have := orest_mod n; omega)
theorem orest_full (n : Nat) : orest n = 65535 ↔ n ≠ 0 ∧ n % 65535 = 0 := by unfold orest; split <;> omega

/-- What stands at an even place counts 256 times. -/
def wsum : Nat → List Nat → Nat
  | _, [] => 0
  | p, x :: l => (if p % 2 = 0 then 256 * x else x) + wsum (p + 1) l
theorem wsum_append (p : Nat) (l m : List Nat) : wsum p (l ++ m) = wsum p l + wsum (p + l.length) m := by
  induction l generalizing p with
  | nil => simp [wsum]
  | cons x l ih => simp only [List.cons_append, wsum, ih, List.length_cons]; rw [show p + 1 + l.length = p + (l.length + 1) from by omega]; omega
theorem wsum_parity (p q : Nat) (h : p % 2 = q % 2) (l : List Nat) : wsum p l = wsum q l := by
  induction l generalizing p q with
  | nil => rfl
  | cons x l ih => simp only [wsum, h]; rw [ih (p + 1) (q + 1) (by omega)]
theorem wsum_two (p : Nat) (l : List Nat) : wsum (p + 2) l = wsum p l := wsum_parity _ _ (by omega) l
theorem wsum_zero (p : Nat) (l : List Nat) : wsum p l = 0 ↔ ∀ x ∈ l, x = 0 := by
  induction l generalizing p with
  | nil => simp [wsum]
  | cons x l ih =>
    have h := ih (p + 1)
    simp only [wsum, List.mem_cons, forall_eq_or_imp]
    rw [← h]
    split <;> omega
/-- One byte on counts 256 times, up to 65535. -/
theorem wsum_shift (p : Nat) (l : List Nat) : wsum (p + 1) l % 65535 = 256 * wsum p l % 65535 := by
  induction l generalizing p with
  | nil => rfl
  | cons x l ih =>
    have h := ih (p + 1)
    simp only [wsum]
    split <;> split <;> omega
theorem wsum_bound (p : Nat) (l : List Nat) (h : ∀ x ∈ l, x < 256) : wsum p l ≤ 65280 * l.length := by
  induction l generalizing p with
  | nil => simp [wsum]
  | cons x l ih =>
    have h1 := ih (p + 1) fun y hy => h y (List.mem_cons_of_mem _ hy)
    have h2 := h x (List.mem_cons_self ..)
    simp only [wsum, List.length_cons]
    split <;> omega
theorem wsum_snoc (l : List Nat) (k : Nat) (h : k < l.length) : wsum 0 (l.take (k + 1)) = wsum 0 (l.take k) + (if k % 2 = 0 then 256 * l.getD k 0 else l.getD k 0) := by
  rw [take_succ_getD l k h, wsum_append, List.length_take, Nat.zero_add, Nat.min_eq_left (by omega)]
  simp [wsum]

/-- The word at an even place. -/
def wordAt (l : List Nat) (j : Nat) : Nat := l.getD (2 * j) 0 * 256 + l.getD (2 * j + 1) 0
theorem getD_beyond (l : List Nat) (k : Nat) (h : l.length ≤ k) : l.getD k 0 = 0 := by
  rw [List.getD_eq_getElem?_getD, List.getElem?_eq_none h]; rfl
theorem take_beyond (l : List Nat) (k : Nat) (h : l.length ≤ k) : l.take k = l := List.take_of_length_le h
/-- How many words bytes have. -/
def wcount (n : Nat) : Nat := (n + 1) / 2
theorem wsum_word (l : List Nat) (j : Nat) (h : 2 * j < l.length) : wsum 0 (l.take (2 * (j + 1))) = wsum 0 (l.take (2 * j)) + wordAt l j := by
  rw [show 2 * (j + 1) = 2 * j + 1 + 1 from by omega]
  unfold wordAt
  rcases Nat.lt_or_ge (2 * j + 1) l.length with h1 | h1
  · rw [wsum_snoc l (2 * j + 1) h1, wsum_snoc l (2 * j) h, if_pos (by omega), if_neg (by omega)]
    omega
  · rw [take_beyond l (2 * j + 1 + 1) (by omega), getD_beyond l (2 * j + 1) h1]
    have := wsum_snoc l (2 * j) h
    rw [take_beyond l (2 * j + 1) h1, if_pos (by omega)] at this
    rw [this]
    omega
/-- The first words, in their order. -/
def wordsTo (l : List Nat) (j : Nat) : List Nat := (List.range j).map (wordAt l)
theorem wordsTo_succ (l : List Nat) (j : Nat) : wordsTo l (j + 1) = wordsTo l j ++ [wordAt l j] := by simp [wordsTo, List.range_succ]
theorem wordsTo_length (l : List Nat) (j : Nat) : (wordsTo l j).length = j := by simp [wordsTo]
/-- Words added in ones' complement. -/
def osum (ws : List Nat) : Nat := ws.foldl (fun s x => orest (s + x)) 0
theorem osum_snoc (ws : List Nat) (x : Nat) : osum (ws ++ [x]) = orest (osum ws + x) := by simp [osum]
theorem osum_words (l : List Nat) (j : Nat) (h : 2 * j ≤ l.length + 1) : osum (wordsTo l j) = orest (wsum 0 (l.take (2 * j))) := by
  induction j with
  | zero => rfl
  | succ j ih =>
    rw [wordsTo_succ, osum_snoc, ih (by omega), orest_left, wsum_word l j (by omega)]
theorem osum_all (l : List Nat) : osum (wordsTo l (wcount l.length)) = orest (wsum 0 l) := by
  rw [osum_words l _ (by unfold wcount; omega), take_beyond l _ (by unfold wcount; omega)]
theorem wordAt_lt {l : List Nat} (h : ∀ x ∈ l, x < 256) (j : Nat) : wordAt l j ≤ 65535 := by
  have g : ∀ k, l.getD k 0 < 256 := fun k => by
    rcases Nat.lt_or_ge k l.length with hk | hk
    · rw [List.getD_eq_getElem?_getD, List.getElem?_eq_getElem hk]; exact h _ (List.getElem_mem hk)
    · rw [getD_beyond l k hk]; decide
  have h1 := g (2 * j)
  have h2 := g (2 * j + 1)
  unfold wordAt
  omega
theorem osum_le (ws : List Nat) (h : ∀ x ∈ ws, x ≤ 65535) : osum ws ≤ 65535 := by
  rcases List.eq_nil_or_concat ws with rfl | ⟨l, x, rfl⟩
  · decide
  · rw [List.concat_eq_append, osum_snoc]; exact orest_le _

/-- A word with its bytes changed. -/
def oswap (w : Nat) : Nat := w % 256 * 256 + w / 256
theorem oswap_le {w : Nat} (h : w ≤ 65535) : oswap w ≤ 65535 := by unfold oswap; omega
theorem oswap_eq {w : Nat} (h : w ≤ 65535) : oswap w = orest (256 * w) := by
  rw [← orest_small (oswap_le h)]
  exact orest_eq (by unfold oswap; omega) (by unfold oswap; omega)
/-- The sum of bytes in two parts. -/
theorem orest_parts (l : List Nat) (k : Nat) (hk : k ≤ l.length) :
    orest (orest (wsum 0 (l.take k)) + (if k % 2 = 0 then orest (wsum 0 (l.drop k)) else oswap (orest (wsum 0 (l.drop k))))) = orest (wsum 0 l) := by
  have e := wsum_append 0 (l.take k) (l.drop k)
  rw [List.take_append_drop, List.length_take, Nat.zero_add, Nat.min_eq_left hk] at e
  rw [e, orest_left]
  split
  · rename_i h
    rw [orest_right, wsum_parity k 0 (by omega)]
  · rename_i h
    rw [oswap_eq (orest_le _), orest_right]
    have e2 : wsum k (l.drop k) = wsum (0 + 1) (l.drop k) := wsum_parity _ _ (by omega) _
    have e3 := wsum_shift 0 (l.drop k)
    have e4 := wsum_zero (0 + 1) (l.drop k)
    have e5 := wsum_zero 0 (l.drop k)
    have e6 := orest_mod (wsum 0 (l.drop k))
    have e7 := orest_null (wsum 0 (l.drop k))
    rw [e2]
    generalize wsum (0 + 1) (l.drop k) = u at *
    generalize wsum 0 (l.drop k) = v at *
    generalize orest v = r at *
    have e8 : u = 0 ↔ v = 0 := e4.trans e5.symm
    exact orest_eq (by omega) (by omega)
end Go.Proofs.Ytlopmkmcjcijcaa
