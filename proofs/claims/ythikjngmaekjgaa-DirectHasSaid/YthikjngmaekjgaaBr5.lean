/-
  bitrow's All, and the document's.
-/
import Derived.Test.YthikjngmaekjgaaBr4
namespace Go.Proofs.Ythikjngmaekjgaa
open Go.RowKit
set_option linter.unusedVariables false

theorem getD_range (f : Nat → Nat) (m i : Nat) (h : i < m) : ((List.range m).map f).getD i 0 = f i := by
  rw [List.getD_eq_getElem?_getD, List.getElem?_map, List.getElem?_range h]
  rfl
theorem set_range (f : Nat → Nat) (m i v : Nat) : ((List.range m).map f).set i v = (List.range m).map (fun w => if w = i then v else f w) := by
  apply List.ext_getElem
  · simp
  · intro j h1 h2
    simp only [List.getElem_set, List.getElem_map, List.getElem_range]
    by_cases h : i = j
    · subst h; simp
    · rw [if_neg h, if_neg (by omega)]
theorem range_congr {f g : Nat → Nat} {m : Nat} (h : ∀ w, w < m → f w = g w) : (List.range m).map f = (List.range m).map g := by
  apply List.map_congr_left
  intro w hw
  exact h w (List.mem_range.1 hw)
theorem range_zero (m : Nat) : (List.range m).map (fun _ => 0) = List.replicate m 0 := List.eq_replicate_iff.2 ⟨by simp, by simp⟩
/-- Word w of a row whose first n bits are set. -/
def allW (n w : Nat) : Nat := 2 ^ min 64 (n - 64 * w) - 1
/-- The row whose first bits are set. -/
def allRow (n : Int) : List Nat := (List.range (newN n)).map (allW n.toNat)
theorem allRow_length (n : Int) : (allRow n).length = newN n := by simp [allRow]
theorem pow_le64 {k : Nat} (h : k ≤ 64) : 2 ^ k ≤ 18446744073709551616 := by
  have : 2 ^ k ≤ 2 ^ 64 := Nat.pow_le_pow_right (by decide) h
  exact this
theorem allW_lt (n w : Nat) : allW n w < 18446744073709551616 := by
  unfold allW
  have h1 := pow_le64 (k := min 64 (n - 64 * w)) (Nat.min_le_left _ _)
  have h2 := Nat.two_pow_pos (min 64 (n - 64 * w))
  omega
theorem allRow_word (n : Int) : ∀ x ∈ allRow n, x < 18446744073709551616 := by
  intro x hx
  obtain ⟨w, _, rfl⟩ := List.mem_map.1 hx
  exact allW_lt _ _
theorem shr_ones {s : Nat} (h : s ≤ 64) : (18446744073709551615 : Int) / 2 ^ s = ((2 ^ (64 - s) - 1 : Nat) : Int) := by
  have h2 : (18446744073709551615 : Nat) / 2 ^ s = 2 ^ (64 - s) - 1 := by
    have hs := Nat.two_pow_pos s
    have ht := Nat.two_pow_pos (64 - s)
    have he : 2 ^ (64 - s) * 2 ^ s = 18446744073709551616 := by
      rw [← Nat.pow_add, show 64 - s + s = 64 from by omega]
    generalize 2 ^ (64 - s) = p at *
    generalize 2 ^ s = q at *
    have e : 18446744073709551615 = q * (p - 1) + (q - 1) := by
      have : q * (p - 1) + q = p * q := by
        rw [Nat.mul_comm p q]
        obtain ⟨d, rfl⟩ : ∃ d, p = d + 1 := ⟨p - 1, by omega⟩
        rw [Nat.add_sub_cancel, Nat.mul_add, Nat.mul_one]
      omega
    rw [e, Nat.mul_add_div hs, Nat.div_eq_of_lt (by omega), Nat.add_zero]
  rw [← h2]
  simp
theorem all_shift {n w : Nat} (h : 64 * w < n) (s : Nat) (hs : s = 64 * (w + 1) - n) : (18446744073709551615 : Int) / 2 ^ s = (allW n w : Int) := by
  rw [shr_ones (by omega)]
  unfold allW
  rw [show min 64 (n - 64 * w) = 64 - s from by omega]
theorem all_val {N K k : Nat} (hN : K = N) (h : 64 * k < K) : (18446744073709551615 : Int) / 2 ^ (if 64 * ((k : Int) + 1) - (N : Int) < 0 then 0 else 64 * ((k : Int) + 1) - (N : Int)).toNat = (allW N k : Int) := by
  subst hN
  refine all_shift h _ ?_
  split <;> omega

/-- The first i words of the row, the others 0. -/
def allTo (n m i : Nat) : List Nat := (List.range m).map (fun w => if w < i then allW n w else 0)
theorem allTo_zero (n m : Nat) : allTo n m 0 = List.replicate m 0 := by
  unfold allTo
  rw [← range_zero]
  exact range_congr fun w _ => by simp
theorem allTo_length (n m i : Nat) : (allTo n m i).length = m := by simp [allTo]
theorem allTo_step (n m i : Nat) : (allTo n m i).set i (allW n i) = allTo n m (i + 1) := by
  unfold allTo
  rw [set_range]
  refine range_congr fun w _ => ?_
  by_cases h : w = i
  · subst h; simp
  · by_cases h2 : w < i
    · rw [if_neg h, if_pos h2, if_pos (by omega)]
    · rw [if_neg h, if_neg h2, if_neg (by omega)]
theorem allTo_all (n : Int) : allTo n.toNat (newN n) (newN n) = allRow n := by
  unfold allTo allRow
  exact range_congr fun w hw => by rw [if_pos hw]

/-- The same, with k bits of word i. -/
def allToK (n m i k : Nat) : List Nat := (allTo n m i).set i (2 ^ k - 1)
theorem allToK_zero (n m i : Nat) : allToK n m i 0 = allTo n m i := by
  unfold allToK allTo
  rw [set_range]
  refine range_congr fun w _ => ?_
  by_cases h : w = i
  · subst h; simp
  · rw [if_neg h]
theorem allToK_length (n m i k : Nat) : (allToK n m i k).length = m := by simp [allToK, allTo_length]
theorem allToK_get (n m i k : Nat) (h : i < m) : (allToK n m i k).getD i 0 = 2 ^ k - 1 := by
  unfold allToK
  rw [List.getD_eq_getElem?_getD, List.getElem?_set_self (by rw [allTo_length]; exact h)]
  rfl
theorem allToK_step (n m i k : Nat) : (allToK n m i k).set i (2 ^ (k + 1) - 1) = allToK n m i (k + 1) := by
  unfold allToK
  rw [List.set_set]
theorem allToK_all (n m i k : Nat) (h : k = min 64 (n - 64 * i)) : allToK n m i k = allTo n m (i + 1) := by
  rw [← allTo_step]
  unfold allToK allW
  rw [h]
theorem pow_twice (k : Nat) (h : k < 64) (x : Nat) (hx : x = 2 ^ k - 1) : x ≤ 9223372036854775807 ∧ (x : Int) * 2 + 1 = ((2 ^ (k + 1) - 1 : Nat) : Int) := by
  have h1 : 2 ^ k ≤ 2 ^ 63 := Nat.pow_le_pow_right (by decide) (by omega)
  have h2 : (2 : Nat) ^ 63 = 9223372036854775808 := by decide
  have h3 := Nat.two_pow_pos k
  rw [Nat.pow_succ]
  generalize 2 ^ k = p at *
  omega

end Go.Proofs.Ythikjngmaekjgaa
