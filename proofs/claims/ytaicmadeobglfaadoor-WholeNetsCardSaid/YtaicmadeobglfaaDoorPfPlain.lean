/-
  Addresses as 128 bits: what stays of one, what is filled up, a bit set (plain facts; nothing is claimed of the program here).
-/
import Derived.Test.YtaicmadeobglfaaDoorPre1
namespace Go.Proofs.YtaicmadeobglfaaDoor
open Go.RowKit
set_option linter.unusedVariables false

/-- A bit of an address, the highest one of its first byte first. -/
def bt (X : List Nat) (i : Nat) : Bool := (X.getD (i / 8) 0).testBit (7 - i % 8)
theorem onb_tb0 : ∀ m, m ≤ 8 → ∀ r, r < 8 → (255 - 255 / 2 ^ m).testBit (7 - r) = decide (r < m) := by decide
theorem onb_tb (n i r : Nat) (h : r < 8) : (onb n i).testBit (7 - r) = decide (8 * i + r < n) := by
  unfold onb
  rw [onb_tb0 _ (Nat.min_le_right _ _) r h]
  congr 1
  apply propext
  omega
structure Adr (X : List Nat) : Prop where
  len : X.length = 16
  lt : ∀ x ∈ X, x < 256
theorem Adr.at {X : List Nat} (h : Adr X) (i : Nat) : X.getD i 0 < 256 := by
  rw [List.getD_eq_getElem?_getD]
  rcases Nat.lt_or_ge i X.length with hi | hi
  · rw [List.getElem?_eq_getElem hi]; exact h.lt _ (List.getElem_mem hi)
  · rw [List.getElem?_eq_none hi]; exact (by decide)
theorem byte_ext {x y : Nat} (hx : x < 256) (hy : y < 256) (h : ∀ r, r < 8 → x.testBit (7 - r) = y.testBit (7 - r)) : x = y := by
  apply Nat.eq_of_testBit_eq
  intro j
  rcases Nat.lt_or_ge j 8 with hj | hj
  · have := h (7 - j) (by omega)
    rwa [show 7 - (7 - j) = j from by omega] at this
  · have e : 256 ≤ 2 ^ j := by
      have := Nat.pow_le_pow_right (n := 2) (by decide) hj
      exact this
    rw [Nat.testBit_lt_two_pow (Nat.lt_of_lt_of_le hx e), Nat.testBit_lt_two_pow (Nat.lt_of_lt_of_le hy e)]
theorem Adr.ext {X Y : List Nat} (hX : Adr X) (hY : Adr Y) (h : ∀ i, i < 128 → bt X i = bt Y i) : X = Y := by
  apply List.ext_getElem (by rw [hX.len, hY.len])
  intro k h1 h2
  have hk : k < 16 := by rw [← hX.len]; exact h1
  have ex : X[k] = X.getD k 0 := by rw [List.getD_eq_getElem?_getD, List.getElem?_eq_getElem h1]; rfl
  have ey : Y[k] = Y.getD k 0 := by rw [List.getD_eq_getElem?_getD, List.getElem?_eq_getElem h2]; rfl
  rw [ex, ey]
  apply byte_ext (hX.at k) (hY.at k)
  intro r hr
  have := h (8 * k + r) (by omega)
  unfold bt at this
  rwa [show (8 * k + r) / 8 = k from by omega, show (8 * k + r) % 8 = r from by omega] at this
theorem zero_adr : Adr zero16 := ⟨rfl, by decide⟩
theorem zero_bt (i : Nat) (_h : i < 128) : bt zero16 i = false := by
  unfold bt
  have e : zero16.getD (i / 8) 0 = 0 := by
    unfold zero16
    rw [List.getD_eq_getElem?_getD, List.getElem?_replicate]
    split <;> rfl
  rw [e, Nat.zero_testBit]
theorem keepB_at (X : List Nat) (n i : Nat) (h : i < 16) : (keepB X n).getD i 0 = X.getD i 0 &&& onb n i := by
  rw [List.getD_eq_getElem?_getD, keepB_get X n i h]; rfl
theorem keepB_adr {X : List Nat} (n : Nat) : Adr (keepB X n) := by
  refine ⟨keepB_len X n, ?_⟩
  intro x hx
  unfold keepB at hx
  rw [List.mem_map] at hx
  obtain ⟨i, _, rfl⟩ := hx
  exact Nat.lt_of_le_of_lt Nat.and_le_right (onb_le n i)
theorem keepB_bt (X : List Nat) (n i : Nat) (h : i < 128) : bt (keepB X n) i = (bt X i && decide (i < n)) := by
  unfold bt
  rw [keepB_at X n (i / 8) (by omega), Nat.testBit_and, onb_tb n (i / 8) (i % 8) (by omega), Nat.div_add_mod]
/-- An address with a bit set. -/
def setB (X : List Nat) (i : Nat) : List Nat := if bt X i then X else X.set (i / 8) (X.getD (i / 8) 0 + 2 ^ (7 - i % 8))
theorem add_or0 : ∀ x, x < 256 → ∀ k, k < 8 → x.testBit k = false → x + 2 ^ k = x ||| 2 ^ k ∧ x + 2 ^ k < 256 := by decide +kernel
theorem setB_adr {X : List Nat} {i : Nat} (h : Adr X) : Adr (setB X i) := by
  unfold setB
  split
  · exact h
  · rename_i hb
    refine ⟨by rw [List.length_set, h.len], fun x hx => ?_⟩
    rcases List.mem_or_eq_of_mem_set hx with h1 | h1
    · exact h.lt x h1
    · rw [h1]
      exact (add_or0 _ (h.at _) _ (by omega) (by simpa [bt] using hb)).2
theorem setB_bt {X : List Nat} {i j : Nat} (h : Adr X) (hi : i < 128) (_hj : j < 128) : bt (setB X i) j = (decide (j = i) || bt X j) := by
  unfold setB
  split
  · rename_i hb
    by_cases e : j = i
    · subst e; simp [hb]
    · simp [e]
  · rename_i hb
    have hb' : (X.getD (i / 8) 0).testBit (7 - i % 8) = false := by simpa [bt] using hb
    have ha := (add_or0 _ (h.at (i / 8)) (7 - i % 8) (by omega) hb').1
    unfold bt
    by_cases e8 : j / 8 = i / 8
    · rw [e8, List.getD_eq_getElem?_getD, List.getElem?_set_self (by rw [h.len]; omega)]
      show (X.getD (i / 8) 0 + 2 ^ (7 - i % 8)).testBit (7 - j % 8) = _
      rw [ha, Nat.testBit_or, Nat.testBit_two_pow]
      by_cases e : j = i
      · subst e; simp
      · have : ¬ (7 - i % 8 = 7 - j % 8) := by omega
        simp [e, this]
    · have e : j ≠ i := fun e => e8 (by rw [e])
      rw [List.getD_eq_getElem?_getD, List.getElem?_set_ne (Ne.symm e8), ← List.getD_eq_getElem?_getD]
      simp [e]
theorem keepB_zero (X : List Nat) : keepB X 0 = zero16 := (keepB_adr 0).ext zero_adr fun i h => by rw [keepB_bt X 0 i h, zero_bt i h]; simp
theorem keepB_step {X : List Nat} {k : Nat} (hk : k < 128) : keepB X (k + 1) = if bt X k then setB (keepB X k) k else keepB X k := by
  refine (keepB_adr _).ext (by split; exact setB_adr (keepB_adr _); exact keepB_adr _) fun i h => ?_
  rw [keepB_bt X _ i h]
  split
  · rename_i hb
    rw [setB_bt (keepB_adr _) hk h, keepB_bt X k i h]
    by_cases e : i = k
    · subst e; simp [hb]
    · have : decide (i < k + 1) = decide (i < k) := by congr 1; apply propext; omega
      simp [e, this]
  · rename_i hb
    rw [keepB_bt X k i h]
    by_cases e : i = k
    · subst e; simp [hb]
    · have : decide (i < k + 1) = decide (i < k) := by congr 1; apply propext; omega
      rw [this]
/-- The first n bits of one, ones from there to M. -/
def fillB (X : List Nat) (n M : Nat) : List Nat := (List.range 16).map fun i => X.getD i 0 ||| (onb M i &&& (255 - onb n i))
theorem fillB_len (X : List Nat) (n M : Nat) : (fillB X n M).length = 16 := by simp [fillB]
theorem fillB_get (X : List Nat) (n M i : Nat) (h : i < 16) : (fillB X n M)[i]? = some (X.getD i 0 ||| (onb M i &&& (255 - onb n i))) := by
  unfold fillB
  rw [List.getElem?_map, List.getElem?_range h]
  rfl
theorem fillB_adr {X : List Nat} (h : Adr X) (n M : Nat) : Adr (fillB X n M) := by
  refine ⟨fillB_len X n M, ?_⟩
  intro x hx
  unfold fillB at hx
  rw [List.mem_map] at hx
  obtain ⟨i, _, rfl⟩ := hx
  exact Nat.or_lt_two_pow (n := 8) (h.at i) (Nat.lt_of_le_of_lt Nat.and_le_left (onb_le M i))
theorem sub255 : ∀ x, x < 256 → 255 - x = 255 ^^^ x := by decide +kernel
theorem tb255 : ∀ r, r < 8 → Nat.testBit 255 (7 - r) = true := by decide
theorem fillB_bt (X : List Nat) (n M i : Nat) (h : i < 128) : bt (fillB X n M) i = (bt X i || (decide (i < M) && !decide (i < n))) := by
  have e : (fillB X n M).getD (i / 8) 0 = X.getD (i / 8) 0 ||| (onb M (i / 8) &&& (255 - onb n (i / 8))) := by
    rw [List.getD_eq_getElem?_getD, fillB_get X n M _ (by omega)]; rfl
  unfold bt
  rw [e, sub255 _ (onb_le _ _), Nat.testBit_or, Nat.testBit_and, Nat.testBit_xor, tb255 _ (by omega), onb_tb M (i / 8) (i % 8) (by omega), onb_tb n (i / 8) (i % 8) (by omega), Nat.div_add_mod]
  simp
theorem fillB_none {X : List Nat} (h : Adr X) (n : Nat) : fillB X n n = X := (fillB_adr h n n).ext h fun i hi => by
  rw [fillB_bt X n n i hi]
  cases decide (i < n) <;> simp
theorem fillB_step {X : List Nat} {n k : Nat} (h : Adr X) (hn : n ≤ k) (hk : k < 128) : fillB X n (k + 1) = setB (fillB X n k) k := by
  refine (fillB_adr h _ _).ext (setB_adr (fillB_adr h _ _)) fun i hi => ?_
  rw [fillB_bt X _ _ i hi, setB_bt (fillB_adr h _ _) hk hi, fillB_bt X _ _ i hi]
  by_cases e : i = k
  · subst e; simp [show ¬ i < n from by omega]
  · have : decide (i < k + 1) = decide (i < k) := by congr 1; apply propext; omega
    rw [this]; simp [e]
/-- The higher half's address. -/
def highB (X : List Nat) (n : Nat) : List Nat := X.set (n / 8) (X.getD (n / 8) 0 ||| 128 / 2 ^ (n % 8))
theorem high_pow0 : ∀ r, r < 8 → 128 / 2 ^ r = 2 ^ (7 - r) := by decide
theorem keep_bit {X : List Nat} {n : Nat} (hk : keepB X n = X) (hn : n < 128) : bt X n = false := by
  rw [← hk, keepB_bt X n n hn]; simp
theorem highB_is {X : List Nat} {n : Nat} (h : Adr X) (hk : keepB X n = X) (hn : n < 128) : highB X n = setB X n := by
  have hb := keep_bit hk hn
  have hb' : (X.getD (n / 8) 0).testBit (7 - n % 8) = false := hb
  unfold highB setB
  rw [if_neg (by simp [hb]), high_pow0 _ (by omega), (add_or0 _ (h.at (n / 8)) (7 - n % 8) (by omega) hb').1]
theorem keep_iff {X Y : List Nat} {n : Nat} (hn : n ≤ 128) : keepB X n = keepB Y n ↔ ∀ i, i < n → bt X i = bt Y i := by
  constructor
  · intro h i hi
    have := congrArg (fun L => bt L i) h
    simp only [keepB_bt X n i (by omega), keepB_bt Y n i (by omega), hi, decide_true, Bool.and_true] at this
    exact this
  · intro h
    refine (keepB_adr n).ext (keepB_adr n) fun i hi => ?_
    rw [keepB_bt X n i hi, keepB_bt Y n i hi]
    by_cases e : i < n
    · rw [h i e]
    · simp [e]
theorem keep_keep (X : List Nat) {n m : Nat} (h : n ≤ m) : keepB (keepB X m) n = keepB X n := (keepB_adr n).ext (keepB_adr n) fun i hi => by
  rw [keepB_bt _ n i hi, keepB_bt X m i hi, keepB_bt X n i hi]
  by_cases e : i < n
  · simp [e, show i < m from by omega]
  · simp [e]
theorem keep_more {X : List Nat} {n m : Nat} (h : n ≤ m) (hk : keepB X n = X) : keepB X m = X := by
  have hX : Adr X := hk ▸ keepB_adr n
  refine (keepB_adr m).ext hX fun i hi => ?_
  rw [keepB_bt X m i hi]
  by_cases e : i < m
  · simp [e]
  · have : bt X i = false := by rw [← hk, keepB_bt X n i hi]; simp [show ¬ i < n from by omega]
    simp [this]
theorem keep_fill {X : List Nat} {n M : Nat} : keepB (fillB X n M) n = keepB X n := (keepB_adr n).ext (keepB_adr n) fun i hi => by
  rw [keepB_bt _ n i hi, fillB_bt X n M i hi, keepB_bt X n i hi]
  by_cases e : i < n
  · simp [e]
  · simp [e]
end Go.Proofs.YtaicmadeobglfaaDoor
